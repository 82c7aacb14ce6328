/- The model's l7Sorted: insertion from behind. -/
import Derived.Test.YtgipcnofonejcaaDoorAbEnc
import Derived.Test.YtgipcnofonejcaaDoorAbThr
open Go Go.Proofs Go.RowKit
namespace Go.Proofs.YtgipcnofonejcaaDoor.Ab
set_option linter.unusedSimpArgs false
set_option linter.unusedVariables false
set_option maxRecDepth 100000
/-- The place behind the last one of the first k that is not greater. -/
def posD (l : List Int) (x : Int) : Nat → Nat
  | 0 => 0
  | k + 1 => if l.getD k 0 > x then posD l x k else k + 1
def insI (l : List Int) (x : Int) : List Int := l.take (posD l x l.length) ++ [x] ++ l.drop (posD l x l.length)
def sortI (l : List Int) : List Int := l.foldl insI []
theorem posD_le (l : List Int) (x : Int) : ∀ k, posD l x k ≤ k
  | 0 => Nat.le_refl _
  | k + 1 => by unfold posD; split; · exact Nat.le_succ_of_le (posD_le l x k)
                · exact Nat.le_refl _
theorem posD_gt (l : List Int) (x : Int) : ∀ k j, posD l x k ≤ j → j < k → l.getD j 0 > x
  | 0, j, _, h => by omega
  | k + 1, j, h1, h2 => by
    unfold posD at h1
    split at h1
    · rename_i hk
      by_cases e : j = k
      · subst e; exact hk
      · exact posD_gt l x k j h1 (by omega)
    · omega
theorem posD_at (l : List Int) (x : Int) : ∀ k, 0 < posD l x k → l.getD (posD l x k - 1) 0 ≤ x
  | 0, h => by simp [posD] at h
  | k + 1, h => by
    unfold posD at h ⊢
    split
    · rename_i hk; rw [if_pos hk] at h; exact posD_at l x k h
    · rename_i hk; simp only [Nat.add_sub_cancel]; omega
theorem insI_perm (l : List Int) (x : Int) : (insI l x).Perm (x :: l) := by
  unfold insI
  have h := List.take_append_drop (posD l x l.length) l
  rw [List.append_assoc, List.singleton_append]
  refine List.Perm.trans List.perm_middle ?_
  rw [h]
theorem insI_len (l : List Int) (x : Int) : (insI l x).length = l.length + 1 := (insI_perm l x).length_eq
theorem insI_sorted {l : List Int} (x : Int) (h : l.Pairwise (· ≤ ·)) : (insI l x).Pairwise (· ≤ ·) := by
  unfold insI
  have hle := posD_le l x l.length
  have hgt := posD_gt l x l.length
  have hat := posD_at l x l.length
  generalize posD l x l.length = p at *
  rw [List.append_assoc, List.pairwise_append]
  refine ⟨h.sublist (List.take_sublist _ _), ?_, fun a ha b hb => ?_⟩
  · rw [List.singleton_append, List.pairwise_cons]
    refine ⟨fun b hb => ?_, h.sublist (List.drop_sublist _ _)⟩
    obtain ⟨j, hj, rfl⟩ := List.getElem_of_mem hb
    rw [List.length_drop] at hj
    have := hgt (p + j) (by omega) (by omega)
    rw [List.getD_eq_getElem?_getD, List.getElem?_eq_getElem (by omega)] at this
    rw [List.getElem_drop]
    have : l[p + j] > x := this
    omega
  · obtain ⟨j, hj, rfl⟩ := List.getElem_of_mem ha
    rw [List.length_take] at hj
    have h1 := hat (by omega)
    rw [List.getD_eq_getElem?_getD, List.getElem?_eq_getElem (by omega)] at h1
    have h1 : l[p - 1] ≤ x := h1
    have h2 : l[j] ≤ l[p - 1] := by
      by_cases e : j = p - 1
      · have : ∀ a b (ha : a < l.length) (hb : b < l.length), a = b → l[a] ≤ l[b] := fun a b ha hb e => by subst e; exact Int.le_refl _
        exact this j (p - 1) (by omega) (by omega) e
      · exact List.pairwise_iff_getElem.1 h j (p - 1) (by omega) (by omega) (by omega)
    rw [List.getElem_take]
    rcases List.mem_append.1 hb with hb | hb
    · simp at hb; omega
    · obtain ⟨m, hm, rfl⟩ := List.getElem_of_mem hb
      rw [List.length_drop] at hm
      rw [List.getElem_drop]
      have h3 := hgt (p + m) (by omega) (by omega)
      rw [List.getD_eq_getElem?_getD, List.getElem?_eq_getElem (by omega)] at h3
      have h3 : l[p + m] > x := h3
      omega
theorem foldI : ∀ (l acc : List Int), acc.Pairwise (· ≤ ·) → (l.foldl insI acc).Pairwise (· ≤ ·) ∧ (l.foldl insI acc).Perm (acc ++ l)
  | [], acc, h => ⟨h, by simp⟩
  | x :: l, acc, h => by
    obtain ⟨h1, h2⟩ := foldI l (insI acc x) (insI_sorted x h)
    refine ⟨h1, h2.trans ?_⟩
    refine ((insI_perm acc x).append_right l).trans ?_
    exact (List.perm_middle (a := x) (l₁ := acc) (l₂ := l)).symm
theorem sortI_sorted (l : List Int) : (sortI l).Pairwise (· ≤ ·) := (foldI l [] List.Pairwise.nil).1
theorem sortI_perm (l : List Int) : (sortI l).Perm l := (foldI l [] List.Pairwise.nil).2
theorem sorted_eq : ∀ {l m : List Int}, l.Perm m → l.Pairwise (· ≤ ·) → m.Pairwise (· ≤ ·) → l = m
  | [], m, h, _, _ => by rw [List.nil_perm.1 h]
  | x :: l, [], h, _, _ => by simpa using h.length_eq
  | x :: l, y :: m, h, h1, h2 => by
    obtain ⟨h3, h4⟩ := List.pairwise_cons.1 h1
    obtain ⟨h5, h6⟩ := List.pairwise_cons.1 h2
    have e : x = y := by
      have hx : x ∈ y :: m := h.mem_iff.1 (by simp)
      have hy : y ∈ x :: l := h.mem_iff.2 (by simp)
      rcases List.mem_cons.1 hx with e | hx
      · exact e
      · rcases List.mem_cons.1 hy with e | hy
        · exact e.symm
        · have := h5 x hx
          have := h3 y hy
          omega
    subst e
    rw [sorted_eq (List.Perm.cons_inv h) h4 h6]
theorem sortI_eq {l m : List Int} (hp : m.Perm l) (h : m.Pairwise (· ≤ ·)) : sortI l = m := sorted_eq ((sortI_perm l).trans hp.symm) (sortI_sorted l) h
theorem l7Sorted_a (l : List Int) (hl : l.length ≤ 1048576) : AC Tryd.prog 55 [.d (encIs l)] (.o 0 (encIs (sortI l))) := by
  refine AC.intro Tryd.func55 rfl (by decide) (by simp [S.res, S.ress]) (by simp [S.os, S.oss]) (by simp [S.wfs, S.wf, dbS]) (by simp [Tryd.f55]) ?_; rw [Tryd.ntmps55]
  repeat (first | refine aq ?_ | refine ap (by rfl : apartB 0 _ _ = true) ?_ | refine ak ?_ | refine ab ?_ | refine al ?_ | ((first | refine ar ?_ | refine ad ty_mix (by kernel_rfl) ?_ | refine ac ?_ | refine ae ?_ | with_reducible refine Later.mk ?_); simp only [evD, evL, iteL, St.said, St.asked, evStep, evOp, evP, St.init, St.app, srcStep, kill, setMany, loadS, fieldS, buildS, toks, Fin, upd_app, Array.isEmpty, Nat.reduceLT, Nat.reduceAdd, Nat.reduceMul, Nat.reduceLeDiff, Nat.reduceSub, Nat.reduceEqDiff, reduceCtorEq, reduceIte, ↓Opt.is, ↓Opt.no, ↓Asks.yes, ↓Asks.no, tyL, encL, asB]))
  refine Ab.loopI l.length (fun _ => True) (fun i => mkS 47 [(0, .d (.sl (List.map encI l))), (3, .g 16 (((l.take i).foldl insI []).map encI)), (4, .d (.v (.int .i64 (i : Int))))] [(16, .tip true 3 1 (((l.take i).foldl insI []).map encI))] 64) trivial ?_ ?_
  · ((first | refine Le.mk rfl ?_ ?_ | refine LeTo.mk rfl ?_ ?_) <;> simp only [evD, evL, iteL, St.said, St.asked, evStep, evOp, evP, St.init, St.app, srcStep, kill, setMany, loadS, fieldS, buildS, toks, Fin, upd_app, Array.isEmpty, Nat.reduceLT, Nat.reduceAdd, Nat.reduceMul, Nat.reduceLeDiff, Nat.reduceSub, Nat.reduceEqDiff, reduceCtorEq, reduceIte, ↓Opt.is, ↓Opt.no, ↓Asks.yes, ↓Asks.no, tyL, encL, leL, leD, ne_eq, List.take_zero, List.foldl_nil])
  intro i hi _
  repeat (first | refine aq ?_ | refine ap (by rfl : apartB 0 _ _ = true) ?_ | refine ak ?_ | refine ab ?_ | refine al ?_ | ((first | refine ar ?_ | refine ad ty_mix (by kernel_rfl) ?_ | refine ac ?_ | refine ae ?_ | with_reducible refine Later.mk ?_); simp only [evD, evL, iteL, St.said, St.asked, evStep, evOp, evP, St.init, St.app, srcStep, kill, setMany, loadS, fieldS, buildS, toks, Fin, upd_app, Array.isEmpty, Nat.reduceLT, Nat.reduceAdd, Nat.reduceMul, Nat.reduceLeDiff, Nat.reduceSub, Nat.reduceEqDiff, reduceCtorEq, reduceIte, ↓Opt.is, ↓Opt.no, ↓Asks.yes, ↓Asks.no, tyL, encL, mkS, updl, asB]))
  refine ⟨fun h => ?_, fun h => ?_⟩
  · have h : i < l.length := by simpa using h
    have hw := wrapN h (by omega)
    have hs : (l.take (i + 1)).foldl insI [] = insI ((l.take i).foldl insI []) l[i] := by rw [List.take_succ_eq_append_getElem h, List.foldl_append]; rfl
    have hlen : ((l.take i).foldl insI []).length = i := by
      have := (foldI (l.take i) [] List.Pairwise.nil).2.length_eq
      rw [List.nil_append, List.length_take] at this
      omega
    generalize (l.take i).foldl insI [] = out at *
    repeat (first | refine aq ?_ | refine ap (by rfl : apartB 0 _ _ = true) ?_ | refine ak ?_ | refine ab ?_ | refine al ?_ | ((first | refine ar ?_ | refine ad ty_mix (by kernel_rfl) ?_ | refine ac ?_ | refine ae ?_ | with_reducible refine Later.mk ?_); simp only [evD, evL, iteL, St.said, St.asked, evStep, evOp, evP, St.init, St.app, srcStep, kill, setMany, loadS, fieldS, buildS, toks, Fin, upd_app, Array.isEmpty, Nat.reduceLT, Nat.reduceAdd, Nat.reduceMul, Nat.reduceLeDiff, Nat.reduceSub, Nat.reduceEqDiff, reduceCtorEq, reduceIte, ↓Opt.is, ↓Opt.no, ↓Asks.yes, ↓Asks.no, tyL, encL, hlen, asB]))
    refine Ab.loopG i (fun k => k) (fun k => k ≤ i ∧ posD out l[i] k = posD out l[i] i) (fun k => mkS 47 [(0, .d (.sl (List.map encI l))), (3, .g 16 (out.map encI)), (4, .d (.v (.int .i64 (i : Int)))), (5, .d (.v (.int .i64 (k : Int))))] [(16, .tip true 3 1 (out.map encI))] 400) ⟨Nat.le_refl _, rfl⟩ ?_ ?_
    · ((first | refine Le.mk rfl ?_ ?_ | refine LeTo.mk rfl ?_ ?_) <;> simp only [evD, evL, iteL, St.said, St.asked, evStep, evOp, evP, St.init, St.app, srcStep, kill, setMany, loadS, fieldS, buildS, toks, Fin, upd_app, Array.isEmpty, Nat.reduceLT, Nat.reduceAdd, Nat.reduceMul, Nat.reduceLeDiff, Nat.reduceSub, Nat.reduceEqDiff, reduceCtorEq, reduceIte, ↓Opt.is, ↓Opt.no, ↓Asks.yes, ↓Asks.no, tyL, encL, leL, leD, ne_eq, hlen])
    intro k ⟨hk, hp⟩
    have hel : (∀ e, e ∈ List.map encI out → e.length = 1) = True := eq_true (encIs_len out)
    have hko : (k ≤ out.length) = True := eq_true (by omega)
    rcases Nat.eq_zero_or_pos k with h0 | h0
    · have h1 : ¬ (k : Int) > 0 := by omega
      have hpk : posD out l[i] i = k := by rw [← hp, h0]; rfl
      repeat (first | refine aq ?_ | refine ap (by rfl : apartB 0 _ _ = true) ?_ | refine ak ?_ | refine ab ?_ | refine al ?_ | ((first | refine ar ?_ | refine ad ty_mix (by kernel_rfl) ?_ | refine ac ?_ | refine ae ?_ | with_reducible refine Later.mk ?_); simp only [evD, evL, iteL, St.said, St.asked, evStep, evOp, evP, St.init, St.app, srcStep, kill, setMany, loadS, fieldS, buildS, toks, Fin, upd_app, Array.isEmpty, Nat.reduceLT, Nat.reduceAdd, Nat.reduceMul, Nat.reduceLeDiff, Nat.reduceSub, Nat.reduceEqDiff, reduceCtorEq, reduceIte, ↓Opt.is, ↓Opt.no, ↓Asks.yes, ↓Asks.no, tyL, encL, mkS, updl, h1, getI h, hel, hko, Nat.zero_le, Option.isNone_none, ← List.map_take, ← List.map_drop, asB]))
      have hb1 : (out.take k).length ≤ 1048576 := by rw [List.length_take]; omega
      have hb2 : (out.drop k).length ≤ 1048576 := by rw [List.length_drop]; omega
      refine ⟨encIs_len _, true, fun _ => encIs_flat _, Later.mk ?_⟩
      simp only [evD, evL, iteL, St.said, St.asked, evStep, evOp, evP, St.init, St.app, srcStep, kill, setMany, loadS, fieldS, buildS, toks, Fin, upd_app, Array.isEmpty, Nat.reduceLT, Nat.reduceAdd, Nat.reduceMul, Nat.reduceLeDiff, Nat.reduceSub, Nat.reduceEqDiff, reduceCtorEq, reduceIte, ↓Opt.is, ↓Opt.no, ↓Asks.yes, ↓Asks.no, tyL, encL, getI h, hel, hko, Nat.zero_le, Option.isNone_none, ← List.map_take, ← List.map_drop]
      refine ⟨by simp only [maxLen]; omega, by omega, ?_⟩
      repeat (first | refine aq ?_ | refine ap (by rfl : apartB 0 _ _ = true) ?_ | refine ak ?_ | refine ab ?_ | refine al ?_ | ((first | refine ar ?_ | refine ad ty_mix (by kernel_rfl) ?_ | refine ac ?_ | refine ae ?_ | with_reducible refine Later.mk ?_); simp only [evD, evL, iteL, St.said, St.asked, evStep, evOp, evP, St.init, St.app, srcStep, kill, setMany, loadS, fieldS, buildS, toks, Fin, upd_app, Array.isEmpty, Nat.reduceLT, Nat.reduceAdd, Nat.reduceMul, Nat.reduceLeDiff, Nat.reduceSub, Nat.reduceEqDiff, reduceCtorEq, reduceIte, ↓Opt.is, ↓Opt.no, ↓Asks.yes, ↓Asks.no, tyL, encL, getI h, hel, hko, Nat.zero_le, Option.isNone_none, ← List.map_take, ← List.map_drop, Nat.le_refl, List.take_length, asB]))
      refine ⟨by simp only [maxLen]; omega, by omega, ?_⟩
      simp only [evD, evL, iteL, St.said, St.asked, evStep, evOp, evP, St.init, St.app, srcStep, kill, setMany, loadS, fieldS, buildS, toks, Fin, upd_app, Array.isEmpty, Nat.reduceLT, Nat.reduceAdd, Nat.reduceMul, Nat.reduceLeDiff, Nat.reduceSub, Nat.reduceEqDiff, reduceCtorEq, reduceIte, ↓Opt.is, ↓Opt.no, ↓Asks.yes, ↓Asks.no, tyL, encL, getI h, hel, hko, Nat.zero_le, Option.isNone_none, ← List.map_take, ← List.map_drop, Nat.le_refl, List.take_length]
      refine ⟨encIs_len _, true, fun _ => encIs_flat _, Later.mk ?_⟩
      simp only [evD, evL, iteL, St.said, St.asked, evStep, evOp, evP, St.init, St.app, srcStep, kill, setMany, loadS, fieldS, buildS, toks, Fin, upd_app, Array.isEmpty, Nat.reduceLT, Nat.reduceAdd, Nat.reduceMul, Nat.reduceLeDiff, Nat.reduceSub, Nat.reduceEqDiff, reduceCtorEq, reduceIte, ↓Opt.is, ↓Opt.no, ↓Asks.yes, ↓Asks.no, tyL, encL, getI h, hel, hko, Nat.zero_le, Option.isNone_none, ← List.map_take, ← List.map_drop, Nat.le_refl, List.take_length]
      refine ⟨by simp only [List.length_append, List.length_map, List.length_cons, List.length_nil, maxLen]; omega, by simp only [List.length_append, List.length_map, List.length_cons, List.length_nil]; omega, ?_⟩
      repeat (first | refine aq ?_ | refine ap (by rfl : apartB 0 _ _ = true) ?_ | refine ak ?_ | refine ab ?_ | refine al ?_ | ((first | refine ar ?_ | refine ad ty_mix (by kernel_rfl) ?_ | refine ac ?_ | refine ae ?_ | with_reducible refine Later.mk ?_); simp only [evD, evL, iteL, St.said, St.asked, evStep, evOp, evP, St.init, St.app, srcStep, kill, setMany, loadS, fieldS, buildS, toks, Fin, upd_app, Array.isEmpty, Nat.reduceLT, Nat.reduceAdd, Nat.reduceMul, Nat.reduceLeDiff, Nat.reduceSub, Nat.reduceEqDiff, reduceCtorEq, reduceIte, ↓Opt.is, ↓Opt.no, ↓Asks.yes, ↓Asks.no, tyL, encL, hw, asB]))
      refine ⟨h, ?_⟩
      have hins : insI out l[i] = out.take k ++ [l[i]] ++ out.drop k := by unfold insI; rw [hlen, hpk]
      rw [hins] at hs
      have hes : List.map encI (out.take k ++ [l[i]] ++ out.drop k) = List.map encI (out.take k) ++ [[D.v (.int .i64 l[i])]] ++ List.map encI (out.drop k) := by rw [List.map_append, List.map_append]; rfl
      refine LeTo.ren (nx := 0) (i := 624) (j := 16) (L := [(0, .d (.sl (List.map encI l))), (3, .g 624 (List.map encI (out.take k ++ [l[i]] ++ out.drop k))), (4, .d (.v (.int .i64 ((i + 1 : Nat) : Int))))]) (M := [(624, .tip true 3 1 (List.map encI (out.take k ++ [l[i]] ++ out.drop k)))]) (by omega) ?_ (by simp [updl, upd]) ?_ ?_
      · ((first | refine Le.mk rfl ?_ ?_ | refine LeTo.mk rfl ?_ ?_) <;> simp only [evD, evL, iteL, St.said, St.asked, evStep, evOp, evP, St.init, St.app, srcStep, kill, setMany, loadS, fieldS, buildS, toks, Fin, upd_app, Array.isEmpty, Nat.reduceLT, Nat.reduceAdd, Nat.reduceMul, Nat.reduceLeDiff, Nat.reduceSub, Nat.reduceEqDiff, reduceCtorEq, reduceIte, ↓Opt.is, ↓Opt.no, ↓Asks.yes, ↓Asks.no, tyL, encL, leL, leD, ne_eq, hes])
      · funext z
        simp only [updl, hs, upd_app]
        (repeat' split) <;> simp [S.ren, rn]
      · funext z
        simp only [updl, hs, upd_app, renM]
        (repeat' split) <;> simp_all [B.ren]
    · obtain ⟨m, rfl⟩ : ∃ m, k = m + 1 := ⟨k - 1, by omega⟩
      have h1 : ((m + 1 : Nat) : Int) > 0 := by omega
      have hm : m < out.length := by omega
      have hwm : IntKind.i64.wrap (((m + 1 : Nat) : Int) - 1) = (m : Int) := by rw [IntKind.wrap_i64]; omega
      repeat (first | refine aq ?_ | refine ap (by rfl : apartB 0 _ _ = true) ?_ | refine ak ?_ | refine ab ?_ | refine al ?_ | ((first | refine ar ?_ | refine ad ty_mix (by kernel_rfl) ?_ | refine ac ?_ | refine ae ?_ | with_reducible refine Later.mk ?_); simp only [evD, evL, iteL, St.said, St.asked, evStep, evOp, evP, St.init, St.app, srcStep, kill, setMany, loadS, fieldS, buildS, toks, Fin, upd_app, Array.isEmpty, Nat.reduceLT, Nat.reduceAdd, Nat.reduceMul, Nat.reduceLeDiff, Nat.reduceSub, Nat.reduceEqDiff, reduceCtorEq, reduceIte, ↓Opt.is, ↓Opt.no, ↓Asks.yes, ↓Asks.no, tyL, encL, mkS, updl, h1, hwm, getI h, getI hm, asB]))
      refine ⟨fun h3 => ?_, fun h3 => ?_⟩
      · have h3 := of_decide_eq_true h3
        have hpm : posD out l[i] (m + 1) = posD out l[i] m := by
          rw [posD, if_pos (by rw [List.getD_eq_getElem?_getD, List.getElem?_eq_getElem hm]; exact h3)]
        repeat (first | refine aq ?_ | refine ap (by rfl : apartB 0 _ _ = true) ?_ | refine ak ?_ | refine ab ?_ | refine al ?_ | ((first | refine ar ?_ | refine ad ty_mix (by kernel_rfl) ?_ | refine ac ?_ | refine ae ?_ | with_reducible refine Later.mk ?_); simp only [evD, evL, iteL, St.said, St.asked, evStep, evOp, evP, St.init, St.app, srcStep, kill, setMany, loadS, fieldS, buildS, toks, Fin, upd_app, Array.isEmpty, Nat.reduceLT, Nat.reduceAdd, Nat.reduceMul, Nat.reduceLeDiff, Nat.reduceSub, Nat.reduceEqDiff, reduceCtorEq, reduceIte, ↓Opt.is, ↓Opt.no, ↓Asks.yes, ↓Asks.no, tyL, encL, hwm, asB]))
        refine ⟨m, by omega, ⟨by omega, by rw [← hpm, hp]⟩, ?_⟩
        ((first | refine Le.mk rfl ?_ ?_ | refine LeTo.mk rfl ?_ ?_) <;> simp only [evD, evL, iteL, St.said, St.asked, evStep, evOp, evP, St.init, St.app, srcStep, kill, setMany, loadS, fieldS, buildS, toks, Fin, upd_app, Array.isEmpty, Nat.reduceLT, Nat.reduceAdd, Nat.reduceMul, Nat.reduceLeDiff, Nat.reduceSub, Nat.reduceEqDiff, reduceCtorEq, reduceIte, ↓Opt.is, ↓Opt.no, ↓Asks.yes, ↓Asks.no, tyL, encL, leL, leD, ne_eq])
      · have h3 := of_decide_eq_false h3
        have hpk : posD out l[i] i = m + 1 := by
          rw [← hp, posD, if_neg (by rw [List.getD_eq_getElem?_getD, List.getElem?_eq_getElem hm]; exact h3)]
        repeat (first | refine aq ?_ | refine ap (by rfl : apartB 0 _ _ = true) ?_ | refine ak ?_ | refine ab ?_ | refine al ?_ | ((first | refine ar ?_ | refine ad ty_mix (by kernel_rfl) ?_ | refine ac ?_ | refine ae ?_ | with_reducible refine Later.mk ?_); simp only [evD, evL, iteL, St.said, St.asked, evStep, evOp, evP, St.init, St.app, srcStep, kill, setMany, loadS, fieldS, buildS, toks, Fin, upd_app, Array.isEmpty, Nat.reduceLT, Nat.reduceAdd, Nat.reduceMul, Nat.reduceLeDiff, Nat.reduceSub, Nat.reduceEqDiff, reduceCtorEq, reduceIte, ↓Opt.is, ↓Opt.no, ↓Asks.yes, ↓Asks.no, tyL, encL, getI h, hel, hko, Nat.zero_le, Option.isNone_none, ← List.map_take, ← List.map_drop, asB]))
        have hb1 : (out.take (m + 1)).length ≤ 1048576 := by rw [List.length_take]; omega
        have hb2 : (out.drop (m + 1)).length ≤ 1048576 := by rw [List.length_drop]; omega
        refine ⟨encIs_len _, true, fun _ => encIs_flat _, Later.mk ?_⟩
        simp only [evD, evL, iteL, St.said, St.asked, evStep, evOp, evP, St.init, St.app, srcStep, kill, setMany, loadS, fieldS, buildS, toks, Fin, upd_app, Array.isEmpty, Nat.reduceLT, Nat.reduceAdd, Nat.reduceMul, Nat.reduceLeDiff, Nat.reduceSub, Nat.reduceEqDiff, reduceCtorEq, reduceIte, ↓Opt.is, ↓Opt.no, ↓Asks.yes, ↓Asks.no, tyL, encL, getI h, hel, hko, Nat.zero_le, Option.isNone_none, ← List.map_take, ← List.map_drop]
        refine ⟨by simp only [maxLen]; omega, by omega, ?_⟩
        repeat (first | refine aq ?_ | refine ap (by rfl : apartB 0 _ _ = true) ?_ | refine ak ?_ | refine ab ?_ | refine al ?_ | ((first | refine ar ?_ | refine ad ty_mix (by kernel_rfl) ?_ | refine ac ?_ | refine ae ?_ | with_reducible refine Later.mk ?_); simp only [evD, evL, iteL, St.said, St.asked, evStep, evOp, evP, St.init, St.app, srcStep, kill, setMany, loadS, fieldS, buildS, toks, Fin, upd_app, Array.isEmpty, Nat.reduceLT, Nat.reduceAdd, Nat.reduceMul, Nat.reduceLeDiff, Nat.reduceSub, Nat.reduceEqDiff, reduceCtorEq, reduceIte, ↓Opt.is, ↓Opt.no, ↓Asks.yes, ↓Asks.no, tyL, encL, getI h, hel, hko, Nat.zero_le, Option.isNone_none, ← List.map_take, ← List.map_drop, Nat.le_refl, List.take_length, asB]))
        refine ⟨by simp only [maxLen]; omega, by omega, ?_⟩
        simp only [evD, evL, iteL, St.said, St.asked, evStep, evOp, evP, St.init, St.app, srcStep, kill, setMany, loadS, fieldS, buildS, toks, Fin, upd_app, Array.isEmpty, Nat.reduceLT, Nat.reduceAdd, Nat.reduceMul, Nat.reduceLeDiff, Nat.reduceSub, Nat.reduceEqDiff, reduceCtorEq, reduceIte, ↓Opt.is, ↓Opt.no, ↓Asks.yes, ↓Asks.no, tyL, encL, getI h, hel, hko, Nat.zero_le, Option.isNone_none, ← List.map_take, ← List.map_drop, Nat.le_refl, List.take_length]
        refine ⟨encIs_len _, true, fun _ => encIs_flat _, Later.mk ?_⟩
        simp only [evD, evL, iteL, St.said, St.asked, evStep, evOp, evP, St.init, St.app, srcStep, kill, setMany, loadS, fieldS, buildS, toks, Fin, upd_app, Array.isEmpty, Nat.reduceLT, Nat.reduceAdd, Nat.reduceMul, Nat.reduceLeDiff, Nat.reduceSub, Nat.reduceEqDiff, reduceCtorEq, reduceIte, ↓Opt.is, ↓Opt.no, ↓Asks.yes, ↓Asks.no, tyL, encL, getI h, hel, hko, Nat.zero_le, Option.isNone_none, ← List.map_take, ← List.map_drop, Nat.le_refl, List.take_length]
        refine ⟨by simp only [List.length_append, List.length_map, List.length_cons, List.length_nil, maxLen]; omega, by simp only [List.length_append, List.length_map, List.length_cons, List.length_nil]; omega, ?_⟩
        repeat (first | refine aq ?_ | refine ap (by rfl : apartB 0 _ _ = true) ?_ | refine ak ?_ | refine ab ?_ | refine al ?_ | ((first | refine ar ?_ | refine ad ty_mix (by kernel_rfl) ?_ | refine ac ?_ | refine ae ?_ | with_reducible refine Later.mk ?_); simp only [evD, evL, iteL, St.said, St.asked, evStep, evOp, evP, St.init, St.app, srcStep, kill, setMany, loadS, fieldS, buildS, toks, Fin, upd_app, Array.isEmpty, Nat.reduceLT, Nat.reduceAdd, Nat.reduceMul, Nat.reduceLeDiff, Nat.reduceSub, Nat.reduceEqDiff, reduceCtorEq, reduceIte, ↓Opt.is, ↓Opt.no, ↓Asks.yes, ↓Asks.no, tyL, encL, hw, asB]))
        refine ⟨h, ?_⟩
        have hins : insI out l[i] = out.take (m + 1) ++ [l[i]] ++ out.drop (m + 1) := by unfold insI; rw [hlen, hpk]
        rw [hins] at hs
        have hes : List.map encI (out.take (m + 1) ++ [l[i]] ++ out.drop (m + 1)) = List.map encI (out.take (m + 1)) ++ [[D.v (.int .i64 l[i])]] ++ List.map encI (out.drop (m + 1)) := by rw [List.map_append, List.map_append]; rfl
        refine LeTo.ren (nx := 0) (i := 624) (j := 16) (L := [(0, .d (.sl (List.map encI l))), (3, .g 624 (List.map encI (out.take (m + 1) ++ [l[i]] ++ out.drop (m + 1)))), (4, .d (.v (.int .i64 ((i + 1 : Nat) : Int))))]) (M := [(624, .tip true 3 1 (List.map encI (out.take (m + 1) ++ [l[i]] ++ out.drop (m + 1))))]) (by omega) ?_ (by simp [updl, upd]) ?_ ?_
        · ((first | refine Le.mk rfl ?_ ?_ | refine LeTo.mk rfl ?_ ?_) <;> simp only [evD, evL, iteL, St.said, St.asked, evStep, evOp, evP, St.init, St.app, srcStep, kill, setMany, loadS, fieldS, buildS, toks, Fin, upd_app, Array.isEmpty, Nat.reduceLT, Nat.reduceAdd, Nat.reduceMul, Nat.reduceLeDiff, Nat.reduceSub, Nat.reduceEqDiff, reduceCtorEq, reduceIte, ↓Opt.is, ↓Opt.no, ↓Asks.yes, ↓Asks.no, tyL, encL, leL, leD, ne_eq, hes])
        · funext z
          simp only [updl, hs, upd_app]
          (repeat' split) <;> simp [S.ren, rn]
        · funext z
          simp only [updl, hs, upd_app, renM]
          (repeat' split) <;> simp_all [B.ren]
  · have h : i = l.length := by have := of_decide_eq_false h; omega
    subst h
    repeat (first | refine aq ?_ | refine ap (by rfl : apartB 0 _ _ = true) ?_ | refine ak ?_ | refine ab ?_ | refine al ?_ | ((first | refine ar ?_ | refine ad ty_mix (by kernel_rfl) ?_ | refine ac ?_ | refine ae ?_ | with_reducible refine Later.mk ?_); simp only [evD, evL, iteL, St.said, St.asked, evStep, evOp, evP, St.init, St.app, srcStep, kill, setMany, loadS, fieldS, buildS, toks, Fin, upd_app, Array.isEmpty, Nat.reduceLT, Nat.reduceAdd, Nat.reduceMul, Nat.reduceLeDiff, Nat.reduceSub, Nat.reduceEqDiff, reduceCtorEq, reduceIte, ↓Opt.is, ↓Opt.no, ↓Asks.yes, ↓Asks.no, tyL, encL, asB]))
    refine Ab.ret ?_; simp only [evD, evL, iteL, St.said, St.asked, evStep, evOp, evP, St.init, St.app, srcStep, kill, setMany, loadS, fieldS, buildS, toks, Fin, upd_app, Array.isEmpty, Nat.reduceLT, Nat.reduceAdd, Nat.reduceMul, Nat.reduceLeDiff, Nat.reduceSub, Nat.reduceEqDiff, reduceCtorEq, reduceIte, ↓Opt.is, ↓Opt.no, ↓Asks.yes, ↓Asks.no, tyL, List.nodup_cons, encL, Tryd.f55, List.take_length, sortI]
    exact ⟨_, _, rfl⟩
end Go.Proofs.YtgipcnofonejcaaDoor.Ab

