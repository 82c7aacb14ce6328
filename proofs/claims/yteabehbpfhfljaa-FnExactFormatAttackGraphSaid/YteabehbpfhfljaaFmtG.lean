/- The graph of attacks as text. -/
import Derived.Test.YteabehbpfhfljaaJoin
import Derived.Test.YteabehbpfhfljaaCloTwo
import Derived.Test.YteabehbpfhfljaaCloThr
open Go Go.Proofs Go.RowKit
namespace Go.Proofs.Yteabehbpfhfljaa.Ab
set_option linter.unusedSimpArgs false
set_option linter.unusedVariables false
set_option maxRecDepth 100000
theorem ascFrom_allG : ∀ (l : List Rel) (p : Option ByteArray), ascFrom p l = true → ∀ r, r ∈ l → validRel r = true
  | [], _, _, r, h => by simp at h
  | x :: l, p, h, r, hr => by
    simp only [ascFrom, Bool.and_eq_true] at h
    rcases List.mem_cons.1 hr with rfl | hr
    · exact h.1
    · exact ascFrom_allG l _ h.2.2 r hr
theorem name_one {r : Rel} (h : validRel r = true) : r.name.size = 1 := by
  unfold validRel at h
  rw [Bool.and_eq_true] at h
  apply Decidable.byContradiction
  intro hn
  rw [validName_not hn] at h
  exact absurd h.1 (by simp)
theorem atomsOk_all (l : List Rel) (v : Int) : ∀ (q p : List Atm), atomsOk l v p q = true → ∀ a, a ∈ q → atomOk l v a = true
  | [], _, _, a, h => by simp at h
  | x :: q, p, h, a, ha => by
    simp only [atomsOk, Bool.and_eq_true] at h
    rcases List.mem_cons.1 ha with rfl | ha
    · exact h.1
    · exact atomsOk_all l v q _ h.2.2 a ha
theorem atom_rel {l : List Rel} {q : Qry} (h : validQ l q = true) {i : Nat} (hi : i < q.atoms.length) : ∃ (k : Nat) (hk : k < l.length), q.atoms[i].rel = (k : Int) ∧ l[k].name.size = 1 := by
  unfold validQ validRels at h
  simp only [Bool.and_eq_true] at h
  have h1 := atomsOk_all _ _ _ _ h.2.2.2.1 _ (List.getElem_mem hi)
  unfold atomOk inB at h1
  simp only [Bool.and_eq_true, decide_eq_true_eq] at h1
  exact ⟨q.atoms[i].rel.toNat, by omega, by omega, name_one (ascFrom_allG _ none h.1.1 _ (List.getElem_mem _))⟩
def nmA (l : List Rel) (q : Qry) (i : Nat) : ByteArray := ((q.atoms[i]?).bind fun a => (l[a.rel.toNat]?).map Rel.name).getD ⟨#[]⟩
theorem nmA_at {l : List Rel} {q : Qry} {i k : Nat} (hi : i < q.atoms.length) (hk : k < l.length) (h : q.atoms[i].rel = (k : Int)) : nmA l q i = l[k].name := by
  unfold nmA
  rw [List.getElem?_eq_getElem hi, Option.bind_some, h, Int.toNat_natCast, List.getElem?_eq_getElem hk]
  rfl
def sgA (w : Bool) : ByteArray := if w = true then ⟨#[62]⟩ else ⟨#[62, 62]⟩
def pcA (l : List Rel) (q : Qry) (i k : Nat) : ByteArray := nmA l q i ++ sgA (weakP (vb q.free) (shapeL l q) i k) ++ nmA l q k
def rowA (l : List Rel) (q : Qry) (i : Nat) : Nat → List ByteArray
  | 0 => []
  | k + 1 => rowA l q i k ++ (if hasP (vb q.free) (shapeL l q) i k = true then [pcA l q i k] else [])
def allA (l : List Rel) (q : Qry) (n : Nat) : Nat → List ByteArray
  | 0 => []
  | i + 1 => allA l q n i ++ rowA l q i n
def grB (l : List Rel) (q : Qry) : ByteArray := if validQ l q = true then jn ⟨#[32]⟩ (allA l q q.atoms.length q.atoms.length) else ⟨#[]⟩
theorem pcA_size {l : List Rel} {q : Qry} (h : validQ l q = true) {i k : Nat} (hi : i < q.atoms.length) (hk : k < q.atoms.length) : 1 ≤ (pcA l q i k).size ∧ (pcA l q i k).size ≤ 4 := by
  obtain ⟨a, ha, h1, h2⟩ := atom_rel h hi
  obtain ⟨b, hb, h3, h4⟩ := atom_rel h hk
  unfold pcA
  rw [nmA_at hi ha h1, nmA_at hk hb h3, ByteArray.size_append, ByteArray.size_append, h2, h4]
  have : (sgA (weakP (vb q.free) (shapeL l q) i k)).size ≤ 2 := by unfold sgA; split <;> decide
  omega
theorem rowA_len (l : List Rel) (q : Qry) (i : Nat) : ∀ k, (rowA l q i k).length ≤ k
  | 0 => Nat.le_refl _
  | k + 1 => by
    have := rowA_len l q i k
    rw [rowA, List.length_append]
    split
    · simp only [List.length_singleton]; omega
    · simp only [List.length_nil]; omega
theorem allA_len (l : List Rel) (q : Qry) (n : Nat) : ∀ i, (allA l q n i).length ≤ i * n
  | 0 => by simp [allA]
  | i + 1 => by
    have := allA_len l q n i
    have := rowA_len l q i n
    rw [allA, List.length_append, Nat.succ_mul]
    omega
theorem rowA_mem {l : List Rel} {q : Qry} {i : Nat} : ∀ {k : Nat} {x : ByteArray}, x ∈ rowA l q i k → ∃ j, j < k ∧ x = pcA l q i j
  | 0, x, h => by simp [rowA] at h
  | k + 1, x, h => by
    rw [rowA, List.mem_append] at h
    rcases h with h | h
    · obtain ⟨j, h1, h2⟩ := rowA_mem h
      exact ⟨j, by omega, h2⟩
    · split at h
      · rw [List.mem_singleton] at h
        exact ⟨k, by omega, h⟩
      · simp at h
theorem allA_mem {l : List Rel} {q : Qry} {n : Nat} : ∀ {i : Nat} {x : ByteArray}, x ∈ allA l q n i → ∃ a j, a < i ∧ j < n ∧ x = pcA l q a j
  | 0, x, h => by simp [allA] at h
  | i + 1, x, h => by
    rw [allA, List.mem_append] at h
    rcases h with h | h
    · obtain ⟨a, j, h1, h2, h3⟩ := allA_mem h
      exact ⟨a, j, by omega, h2, h3⟩
    · obtain ⟨j, h1, h2⟩ := rowA_mem h
      exact ⟨i, j, by omega, h1, h2⟩
theorem jnA_size {P : List ByteArray} (hP : ∀ x, x ∈ P → 1 ≤ x.size ∧ x.size ≤ 4) (hl : P.length ≤ 9) : (jn ⟨#[32]⟩ P).size ≤ 45 := by
  have := jn_size (sep := ⟨#[32]⟩) (m := 4) P (fun x hx => (hP x hx).2)
  have e : (⟨#[32]⟩ : ByteArray).size = 1 := rfl
  rw [e] at this
  omega
/-- Nothing has been said yet, or something has. -/
theorem toListE : (⟨#[]⟩ : ByteArray).toList = [] := by rw [ByteArray.toList_eq]
theorem jnA_ne {P : List ByteArray} (hP : ∀ x, x ∈ P → 1 ≤ x.size ∧ x.size ≤ 4) : ((jn ⟨#[32]⟩ P).toList == (⟨#[]⟩ : ByteArray).toList) = decide (P = []) := by
  rw [toListE]
  cases P with
  | nil =>
    rw [show jn ⟨#[32]⟩ [] = (⟨#[]⟩ : ByteArray) from rfl, toListE]
    rfl
  | cons x P =>
    have h1 : 1 ≤ (jn ⟨#[32]⟩ (x :: P)).size := by
      have hx := (hP x (by simp)).1
      cases P with
      | nil => exact hx
      | cons y P => rw [jn, ByteArray.size_append, ByteArray.size_append]; omega
    rw [decide_eq_false (by simp), beq_eq_false_iff_ne]
    intro e
    rw [ByteArray.toList_eq] at e
    have h2 := congrArg List.length e
    have h3 : (jn ⟨#[32]⟩ (x :: P)).data.toList.length = (jn ⟨#[32]⟩ (x :: P)).size := rfl
    rw [h3] at h2
    simp only [List.length_nil] at h2
    omega
theorem jn_put (sep : ByteArray) (P : List ByteArray) (x : ByteArray) : jn sep (P ++ [x]) = if P = [] then x else jn sep P ++ sep ++ x := by
  by_cases h : P = []
  · subst h; rfl
  · rw [if_neg h, jn_snoc sep x P h]
theorem weakG_of {l : List Rel} {q : Qry} (hd : validQ l q = true) {i k : Nat} (hi : i < q.atoms.length) (hk : k < q.atoms.length) : weakL l q (i : Int) (k : Int) = weakP (vb q.free) (shapeL l q) i k := by
  unfold weakL
  rw [hd, inAt_of hi, inAt_of hk]
  simp
theorem attackSign_a (w : Bool) : AC Try.prog 24 [.d (.v (.bool w))] (.d (.v (.string (sgA w)))) := by
  unfold sgA
  cases w with
  | true =>
    rw [if_pos rfl]
    refine AC.intro Try.func24 rfl (by decide) (by simp [S.res, S.ress]) (by simp [S.os, S.oss]) (by simp [S.wfs, S.wf, dbS]) (by simp [Try.f24]) ?_; rw [Try.ntmps24]
    repeat (first | refine aq ?_ | refine ap (by rfl : apartB 0 _ _ = true) ?_ | refine ak ?_ | refine ab ?_ | refine al ?_ | ((first | refine ar ?_ | refine ad ty_mix (by kernel_rfl) ?_ | refine ac ?_ | refine ae ?_ | with_reducible refine Later.mk ?_); simp only [evD, evL, iteL, St.said, St.asked, evStep, evOp, evP, St.init, St.app, srcStep, kill, setMany, loadS, fieldS, buildS, toks, Fin, upd_app, Array.isEmpty, Nat.reduceLT, Nat.reduceAdd, Nat.reduceMul, Nat.reduceLeDiff, Nat.reduceSub, Nat.reduceEqDiff, reduceCtorEq, reduceIte, ↓Opt.is, ↓Opt.no, ↓Asks.yes, ↓Asks.no, tyL, encL, asB]))
    refine Ab.ret ?_; simp only [evD, evL, iteL, St.said, St.asked, evStep, evOp, evP, St.init, St.app, srcStep, kill, setMany, loadS, fieldS, buildS, toks, Fin, upd_app, Array.isEmpty, Nat.reduceLT, Nat.reduceAdd, Nat.reduceMul, Nat.reduceLeDiff, Nat.reduceSub, Nat.reduceEqDiff, reduceCtorEq, reduceIte, ↓Opt.is, ↓Opt.no, ↓Asks.yes, ↓Asks.no, tyL, List.nodup_cons, encL, Try.f24]
  | false =>
    rw [if_neg (by simp)]
    refine AC.intro Try.func24 rfl (by decide) (by simp [S.res, S.ress]) (by simp [S.os, S.oss]) (by simp [S.wfs, S.wf, dbS]) (by simp [Try.f24]) ?_; rw [Try.ntmps24]
    repeat (first | refine aq ?_ | refine ap (by rfl : apartB 0 _ _ = true) ?_ | refine ak ?_ | refine ab ?_ | refine al ?_ | ((first | refine ar ?_ | refine ad ty_mix (by kernel_rfl) ?_ | refine ac ?_ | refine ae ?_ | with_reducible refine Later.mk ?_); simp only [evD, evL, iteL, St.said, St.asked, evStep, evOp, evP, St.init, St.app, srcStep, kill, setMany, loadS, fieldS, buildS, toks, Fin, upd_app, Array.isEmpty, Nat.reduceLT, Nat.reduceAdd, Nat.reduceMul, Nat.reduceLeDiff, Nat.reduceSub, Nat.reduceEqDiff, reduceCtorEq, reduceIte, ↓Opt.is, ↓Opt.no, ↓Asks.yes, ↓Asks.no, tyL, encL, asB]))
    refine Ab.ret ?_; simp only [evD, evL, iteL, St.said, St.asked, evStep, evOp, evP, St.init, St.app, srcStep, kill, setMany, loadS, fieldS, buildS, toks, Fin, upd_app, Array.isEmpty, Nat.reduceLT, Nat.reduceAdd, Nat.reduceMul, Nat.reduceLeDiff, Nat.reduceSub, Nat.reduceEqDiff, reduceCtorEq, reduceIte, ↓Opt.is, ↓Opt.no, ↓Asks.yes, ↓Asks.no, tyL, List.nodup_cons, encL, Try.f24]
set_option maxHeartbeats 3200000 in
theorem implFormatAttackGraph_a {l : List Rel} {q : Qry} (gl : (eSlice eRel).good l) (gq : eQry.good q) : AC Try.prog 9 [.d (encRs l), qryS q] (.d (.v (.string (grB l q)))) := by
  have hv := implIsValidQuery_a gl gq
  unfold grB
  rcases Bool.eq_false_or_eq_true (validQ l q) with hd | hd
  · have h3 := shapeV_a gl gq hd
    have hl3 := (free_bits hd).2.2.2
    have hsl := shapeL_len l q
    rw [hd] at hv
    rw [hd, if_pos rfl]
    unfold qryS at hv h3 ⊢
    refine AC.intro Try.func9 rfl (by decide) (by simp [S.res, S.ress]) (by simp [S.os, S.oss]) (by simp [S.wfs, S.wf, dbS]) (by simp [Try.f9]) ?_; rw [Try.ntmps9]
    repeat (first | refine aq ?_ | refine ap (by rfl : apartB 0 _ _ = true) ?_ | refine ak ?_ | refine ab ?_ | refine al ?_ | ((first | refine ar ?_ | refine ad ty_mix (by kernel_rfl) ?_ | refine ac ?_ | refine ae ?_ | with_reducible refine Later.mk ?_); simp only [evD, evL, iteL, St.said, St.asked, evStep, evOp, evP, St.init, St.app, srcStep, kill, setMany, loadS, fieldS, buildS, toks, Fin, upd_app, Array.isEmpty, Nat.reduceLT, Nat.reduceAdd, Nat.reduceMul, Nat.reduceLeDiff, Nat.reduceSub, Nat.reduceEqDiff, reduceCtorEq, reduceIte, ↓Opt.is, ↓Opt.no, ↓Asks.yes, ↓Asks.no, tyL, encL, asB]))
    refine ⟨_, hv, ?_⟩; (repeat (first | refine ap (by rfl : apartB 0 _ _ = true) ?_ | refine ap (by simp [osL, D.flat]) ?_)); repeat (first | refine aq ?_ | refine ap (by rfl : apartB 0 _ _ = true) ?_ | refine ak ?_ | refine ab ?_ | refine al ?_ | ((first | refine ar ?_ | refine ad ty_mix (by kernel_rfl) ?_ | refine ac ?_ | refine ae ?_ | with_reducible refine Later.mk ?_); simp only [evD, evL, iteL, St.said, St.asked, evStep, evOp, evP, St.init, St.app, srcStep, kill, setMany, loadS, fieldS, buildS, toks, Fin, upd_app, Array.isEmpty, Nat.reduceLT, Nat.reduceAdd, Nat.reduceMul, Nat.reduceLeDiff, Nat.reduceSub, Nat.reduceEqDiff, reduceCtorEq, reduceIte, ↓Opt.is, ↓Opt.no, ↓Asks.yes, ↓Asks.no, tyL, encL, asB]))
    refine ⟨_, h3, ?_⟩; (repeat (first | refine ap (by rfl : apartB 0 _ _ = true) ?_ | refine ap (by simp [osL, D.flat]) ?_)); repeat (first | refine aq ?_ | refine ap (by rfl : apartB 0 _ _ = true) ?_ | refine ak ?_ | refine ab ?_ | refine al ?_ | ((first | refine ar ?_ | refine ad ty_mix (by kernel_rfl) ?_ | refine ac ?_ | refine ae ?_ | with_reducible refine Later.mk ?_); simp only [evD, evL, iteL, St.said, St.asked, evStep, evOp, evP, St.init, St.app, srcStep, kill, setMany, loadS, fieldS, buildS, toks, Fin, upd_app, Array.isEmpty, Nat.reduceLT, Nat.reduceAdd, Nat.reduceMul, Nat.reduceLeDiff, Nat.reduceSub, Nat.reduceEqDiff, reduceCtorEq, reduceIte, ↓Opt.is, ↓Opt.no, ↓Asks.yes, ↓Asks.no, tyL, encL, asB]))
    have hok : ∀ x, x ∈ allA l q q.atoms.length q.atoms.length → 1 ≤ x.size ∧ x.size ≤ 4 := fun x hx => by
      obtain ⟨a, j, h1, h2, rfl⟩ := allA_mem hx
      exact pcA_size hd h1 h2
    refine Ab.weaken (Le.adopt (t := 6) (id := 1) (n := 1) 9 (by omega) (by simp only [evD, evL, iteL, St.said, St.asked, evStep, evOp, evP, St.init, St.app, srcStep, kill, setMany, loadS, fieldS, buildS, toks, Fin, upd_app, Array.isEmpty, Nat.reduceLT, Nat.reduceAdd, Nat.reduceMul, Nat.reduceLeDiff, Nat.reduceSub, Nat.reduceEqDiff, reduceCtorEq, reduceIte, ↓Opt.is, ↓Opt.no, ↓Asks.yes, ↓Asks.no, tyL, encL]) (by simp only [evD, evL, iteL, St.said, St.asked, evStep, evOp, evP, St.init, St.app, srcStep, kill, setMany, loadS, fieldS, buildS, toks, Fin, upd_app, Array.isEmpty, Nat.reduceLT, Nat.reduceAdd, Nat.reduceMul, Nat.reduceLeDiff, Nat.reduceSub, Nat.reduceEqDiff, reduceCtorEq, reduceIte, ↓Opt.is, ↓Opt.no, ↓Asks.yes, ↓Asks.no, tyL, encL])) ?_
    simp only [evD, evL, iteL, St.said, St.asked, evStep, evOp, evP, St.init, St.app, srcStep, kill, setMany, loadS, fieldS, buildS, toks, Fin, upd_app, Array.isEmpty, Nat.reduceLT, Nat.reduceAdd, Nat.reduceMul, Nat.reduceLeDiff, Nat.reduceSub, Nat.reduceEqDiff, reduceCtorEq, reduceIte, ↓Opt.is, ↓Opt.no, ↓Asks.yes, ↓Asks.no, tyL, encL]
    refine Ab.loopI q.atoms.length (fun _ => True) (fun i => mkS 66 [(0, .d (.sl (List.map encR l))), (3, .p 0 0), (5, .p 144 0), (6, .g 1 ((allA l q q.atoms.length i).map encT)), (20, .d (.sl (List.map encA q.atoms))), (21, .d (.v (.int .i64 (q.atoms.length : Int)))), (22, .d (.v (.int .i64 (i : Int))))] [(0, .box [.d (.v (.int .i64 q.vars)), .d (.sl (List.map encA q.atoms)), .d (.sl (List.map encI q.free))]), (128, .tok (.sl (List.map encSh (shapeL l q)))), (144, .box [.d (.v (.int .u64 ((vb q.free : Nat) : Int))), .o 128 (.sl (List.map encSh (shapeL l q)))]), (1, .tip true 9 1 ((allA l q q.atoms.length i).map encT))] 256) trivial ?_ ?_
    · ((first | refine Le.mk rfl ?_ ?_ | refine LeTo.mk rfl ?_ ?_) <;> simp only [evD, evL, iteL, St.said, St.asked, evStep, evOp, evP, St.init, St.app, srcStep, kill, setMany, loadS, fieldS, buildS, toks, Fin, upd_app, Array.isEmpty, Nat.reduceLT, Nat.reduceAdd, Nat.reduceMul, Nat.reduceLeDiff, Nat.reduceSub, Nat.reduceEqDiff, reduceCtorEq, reduceIte, ↓Opt.is, ↓Opt.no, ↓Asks.yes, ↓Asks.no, tyL, encL, leL, leD, ne_eq, allA])
    intro i hi _
    repeat (first | refine aq ?_ | refine ap (by rfl : apartB 0 _ _ = true) ?_ | refine ak ?_ | refine ab ?_ | refine al ?_ | ((first | refine ar ?_ | refine ad ty_mix (by kernel_rfl) ?_ | refine ac ?_ | refine ae ?_ | with_reducible refine Later.mk ?_); simp only [evD, evL, iteL, St.said, St.asked, evStep, evOp, evP, St.init, St.app, srcStep, kill, setMany, loadS, fieldS, buildS, toks, Fin, upd_app, Array.isEmpty, Nat.reduceLT, Nat.reduceAdd, Nat.reduceMul, Nat.reduceLeDiff, Nat.reduceSub, Nat.reduceEqDiff, reduceCtorEq, reduceIte, ↓Opt.is, ↓Opt.no, ↓Asks.yes, ↓Asks.no, tyL, encL, mkS, updl, asB]))
    refine ⟨fun h => ?_, fun h => ?_⟩
    · have h : i < q.atoms.length := by simpa using h
      have hw := wrapN h (by omega)
      have z3 : ∀ x : Nat, (0 ≤ (x : Int)) = True := fun x => eq_true (by omega)
      obtain ⟨a, ha, hra, hna⟩ := atom_rel hd h
      have hma := nmA_at h ha hra
      have hpl := allA_len l q q.atoms.length i
      have hst : allA l q q.atoms.length (i + 1) = allA l q q.atoms.length i ++ rowA l q i q.atoms.length := rfl
      have hm9 : i * q.atoms.length ≤ 6 := Nat.le_trans (Nat.mul_le_mul (show i ≤ 2 by omega) hl3) (by omega)
      generalize allA l q q.atoms.length i = A at *
      repeat (first | refine aq ?_ | refine ap (by rfl : apartB 0 _ _ = true) ?_ | refine ak ?_ | refine ab ?_ | refine al ?_ | ((first | refine ar ?_ | refine ad ty_mix (by kernel_rfl) ?_ | refine ac ?_ | refine ae ?_ | with_reducible refine Later.mk ?_); simp only [evD, evL, iteL, St.said, St.asked, evStep, evOp, evP, St.init, St.app, srcStep, kill, setMany, loadS, fieldS, buildS, toks, Fin, upd_app, Array.isEmpty, Nat.reduceLT, Nat.reduceAdd, Nat.reduceMul, Nat.reduceLeDiff, Nat.reduceSub, Nat.reduceEqDiff, reduceCtorEq, reduceIte, ↓Opt.is, ↓Opt.no, ↓Asks.yes, ↓Asks.no, tyL, encL, getA h, encA, asB]))
      refine Ab.loopI q.atoms.length (fun _ => True) (fun k => mkS 66 [(0, .d (.sl (List.map encR l))), (3, .p 0 0), (5, .p 144 0), (6, .g 1 ((A ++ rowA l q i k).map encT)), (7, .d (.v (.int .i64 (i : Int)))), (8, .p 320 0), (20, .d (.sl (List.map encA q.atoms))), (21, .d (.v (.int .i64 (q.atoms.length : Int)))), (22, .d (.v (.int .i64 (i : Int)))), (28, .d (.sl (List.map encA q.atoms))), (29, .d (.v (.int .i64 (q.atoms.length : Int)))), (30, .d (.v (.int .i64 (k : Int))))] [(0, .box [.d (.v (.int .i64 q.vars)), .d (.sl (List.map encA q.atoms)), .d (.sl (List.map encI q.free))]), (1, .tip true 9 1 ((A ++ rowA l q i k).map encT)), (128, .tok (.sl (List.map encSh (shapeL l q)))), (144, .box [.d (.v (.int .u64 ((vb q.free : Nat) : Int))), .o 128 (.sl (List.map encSh (shapeL l q)))]), (320, .box [.d (.v (.int .i64 q.atoms[i].rel)), .d (.sl (List.map encI q.atoms[i].terms))])] 432) trivial ?_ ?_
      · ((first | refine Le.mk rfl ?_ ?_ | refine LeTo.mk rfl ?_ ?_) <;> simp only [evD, evL, iteL, St.said, St.asked, evStep, evOp, evP, St.init, St.app, srcStep, kill, setMany, loadS, fieldS, buildS, toks, Fin, upd_app, Array.isEmpty, Nat.reduceLT, Nat.reduceAdd, Nat.reduceMul, Nat.reduceLeDiff, Nat.reduceSub, Nat.reduceEqDiff, reduceCtorEq, reduceIte, ↓Opt.is, ↓Opt.no, ↓Asks.yes, ↓Asks.no, tyL, encL, leL, leD, ne_eq, rowA, List.append_nil])
      intro k hk _
      repeat (first | refine aq ?_ | refine ap (by rfl : apartB 0 _ _ = true) ?_ | refine ak ?_ | refine ab ?_ | refine al ?_ | ((first | refine ar ?_ | refine ad ty_mix (by kernel_rfl) ?_ | refine ac ?_ | refine ae ?_ | with_reducible refine Later.mk ?_); simp only [evD, evL, iteL, St.said, St.asked, evStep, evOp, evP, St.init, St.app, srcStep, kill, setMany, loadS, fieldS, buildS, toks, Fin, upd_app, Array.isEmpty, Nat.reduceLT, Nat.reduceAdd, Nat.reduceMul, Nat.reduceLeDiff, Nat.reduceSub, Nat.reduceEqDiff, reduceCtorEq, reduceIte, ↓Opt.is, ↓Opt.no, ↓Asks.yes, ↓Asks.no, tyL, encL, mkS, updl, asB]))
      refine ⟨fun h2 => ?_, fun h2 => ?_⟩
      · have h2 : k < q.atoms.length := by simpa using h2
        have hw2 := wrapN h2 (by omega)
        obtain ⟨b, hb, hrb, hnb⟩ := atom_rel hd h2
        have hmb := nmA_at h2 hb hrb
        have hrl := rowA_len l q i k
        have hst2 : rowA l q i (k + 1) = rowA l q i k ++ (if hasP (vb q.free) (shapeL l q) i k = true then [pcA l q i k] else []) := rfl
        have hpc : pcA l q i k = l[a].name ++ sgA (weakP (vb q.free) (shapeL l q) i k) ++ l[b].name := by unfold pcA; rw [hma, hmb]
        have hA16 := shapeL_in l q
        have hhc := hasAttackP_a (F := vb q.free) (A := shapeL l q) (i := i) (k := k) (by omega) hA16 (vb_lt q.free) (by omega) (by omega)
        have hwc := isWeakP_a (F := vb q.free) (A := shapeL l q) (i := i) (k := k) (by omega) hA16 (vb_lt q.free) (by omega) (by omega)
        have hsc := attackSign_a (weakP (vb q.free) (shapeL l q) i k)
        unfold shS at hhc hwc
        generalize rowA l q i k = R at *
        rcases Bool.eq_false_or_eq_true (hasP (vb q.free) (shapeL l q) i k) with hp | hp
        · rw [hp] at hhc
          rw [hp, if_pos rfl, hpc] at hst2
          have hsz : (sgA (weakP (vb q.free) (shapeL l q) i k)).size ≤ 2 := by unfold sgA; split <;> decide
          generalize sgA (weakP (vb q.free) (shapeL l q) i k) = G at *
          have a1 := addOk l[a].name G (by omega)
          have a2 := addOk (l[a].name ++ G) l[b].name (by rw [ByteArray.size_append]; omega)
          have ya := getR ha
          have yb := getR hb
          repeat (first | refine aq ?_ | refine ap (by rfl : apartB 0 _ _ = true) ?_ | refine ak ?_ | refine ab ?_ | refine al ?_ | ((first | refine ar ?_ | refine ad ty_mix (by kernel_rfl) ?_ | refine ac ?_ | refine ae ?_ | with_reducible refine Later.mk ?_); simp only [evD, evL, iteL, St.said, St.asked, evStep, evOp, evP, St.init, St.app, srcStep, kill, setMany, loadS, fieldS, buildS, toks, Fin, upd_app, Array.isEmpty, Nat.reduceLT, Nat.reduceAdd, Nat.reduceMul, Nat.reduceLeDiff, Nat.reduceSub, Nat.reduceEqDiff, reduceCtorEq, reduceIte, ↓Opt.is, ↓Opt.no, ↓Asks.yes, ↓Asks.no, tyL, encL, getA h2, encA, asB]))
          refine ⟨_, hhc, ?_⟩; (repeat (first | refine ap (by rfl : apartB 0 _ _ = true) ?_ | refine ap (by simp [osL, D.flat]) ?_)); repeat (first | refine aq ?_ | refine ap (by rfl : apartB 0 _ _ = true) ?_ | refine ak ?_ | refine ab ?_ | refine al ?_ | ((first | refine ar ?_ | refine ad ty_mix (by kernel_rfl) ?_ | refine ac ?_ | refine ae ?_ | with_reducible refine Later.mk ?_); simp only [evD, evL, iteL, St.said, St.asked, evStep, evOp, evP, St.init, St.app, srcStep, kill, setMany, loadS, fieldS, buildS, toks, Fin, upd_app, Array.isEmpty, Nat.reduceLT, Nat.reduceAdd, Nat.reduceMul, Nat.reduceLeDiff, Nat.reduceSub, Nat.reduceEqDiff, reduceCtorEq, reduceIte, ↓Opt.is, ↓Opt.no, ↓Asks.yes, ↓Asks.no, tyL, encL, asB]))
          refine ⟨_, hwc, ?_⟩; (repeat (first | refine ap (by rfl : apartB 0 _ _ = true) ?_ | refine ap (by simp [osL, D.flat]) ?_)); repeat (first | refine aq ?_ | refine ap (by rfl : apartB 0 _ _ = true) ?_ | refine ak ?_ | refine ab ?_ | refine al ?_ | ((first | refine ar ?_ | refine ad ty_mix (by kernel_rfl) ?_ | refine ac ?_ | refine ae ?_ | with_reducible refine Later.mk ?_); simp only [evD, evL, iteL, St.said, St.asked, evStep, evOp, evP, St.init, St.app, srcStep, kill, setMany, loadS, fieldS, buildS, toks, Fin, upd_app, Array.isEmpty, Nat.reduceLT, Nat.reduceAdd, Nat.reduceMul, Nat.reduceLeDiff, Nat.reduceSub, Nat.reduceEqDiff, reduceCtorEq, reduceIte, ↓Opt.is, ↓Opt.no, ↓Asks.yes, ↓Asks.no, tyL, encL, asB]))
          refine ⟨_, hsc, ?_⟩; (repeat (first | refine ap (by rfl : apartB 0 _ _ = true) ?_ | refine ap (by simp [osL, D.flat]) ?_)); repeat (first | refine aq ?_ | refine ap (by rfl : apartB 0 _ _ = true) ?_ | refine ak ?_ | refine ab ?_ | refine al ?_ | ((first | refine ar ?_ | refine ad ty_mix (by kernel_rfl) ?_ | refine ac ?_ | refine ae ?_ | with_reducible refine Later.mk ?_); simp only [evD, evL, iteL, St.said, St.asked, evStep, evOp, evP, St.init, St.app, srcStep, kill, setMany, loadS, fieldS, buildS, toks, Fin, upd_app, Array.isEmpty, Nat.reduceLT, Nat.reduceAdd, Nat.reduceMul, Nat.reduceLeDiff, Nat.reduceSub, Nat.reduceEqDiff, reduceCtorEq, reduceIte, ↓Opt.is, ↓Opt.no, ↓Asks.yes, ↓Asks.no, tyL, encL, hra, hrb, ya, yb, z3, Int.toNat_natCast, encR, a1, a2, asB]))
          refine ⟨by simp only [maxLen]; rw [List.length_append]; omega, by rw [List.length_append]; omega, ?_⟩
          repeat (first | refine aq ?_ | refine ap (by rfl : apartB 0 _ _ = true) ?_ | refine ak ?_ | refine ab ?_ | refine al ?_ | ((first | refine ar ?_ | refine ad ty_mix (by kernel_rfl) ?_ | refine ac ?_ | refine ae ?_ | with_reducible refine Later.mk ?_); simp only [evD, evL, iteL, St.said, St.asked, evStep, evOp, evP, St.init, St.app, srcStep, kill, setMany, loadS, fieldS, buildS, toks, Fin, upd_app, Array.isEmpty, Nat.reduceLT, Nat.reduceAdd, Nat.reduceMul, Nat.reduceLeDiff, Nat.reduceSub, Nat.reduceEqDiff, reduceCtorEq, reduceIte, ↓Opt.is, ↓Opt.no, ↓Asks.yes, ↓Asks.no, tyL, encL, hw2, asB]))
          refine ⟨h2, ?_⟩
          ((first | refine Le.mk rfl ?_ ?_ | refine LeTo.mk rfl ?_ ?_) <;> simp only [evD, evL, iteL, St.said, St.asked, evStep, evOp, evP, St.init, St.app, srcStep, kill, setMany, loadS, fieldS, buildS, toks, Fin, upd_app, Array.isEmpty, Nat.reduceLT, Nat.reduceAdd, Nat.reduceMul, Nat.reduceLeDiff, Nat.reduceSub, Nat.reduceEqDiff, reduceCtorEq, reduceIte, ↓Opt.is, ↓Opt.no, ↓Asks.yes, ↓Asks.no, tyL, encL, leL, leD, ne_eq, hst2, List.map_append, encT, List.append_assoc, hra])
        · rw [hp] at hhc
          rw [hp, if_neg (by simp), List.append_nil] at hst2
          repeat (first | refine aq ?_ | refine ap (by rfl : apartB 0 _ _ = true) ?_ | refine ak ?_ | refine ab ?_ | refine al ?_ | ((first | refine ar ?_ | refine ad ty_mix (by kernel_rfl) ?_ | refine ac ?_ | refine ae ?_ | with_reducible refine Later.mk ?_); simp only [evD, evL, iteL, St.said, St.asked, evStep, evOp, evP, St.init, St.app, srcStep, kill, setMany, loadS, fieldS, buildS, toks, Fin, upd_app, Array.isEmpty, Nat.reduceLT, Nat.reduceAdd, Nat.reduceMul, Nat.reduceLeDiff, Nat.reduceSub, Nat.reduceEqDiff, reduceCtorEq, reduceIte, ↓Opt.is, ↓Opt.no, ↓Asks.yes, ↓Asks.no, tyL, encL, getA h2, encA, asB]))
          refine ⟨_, hhc, ?_⟩; (repeat (first | refine ap (by rfl : apartB 0 _ _ = true) ?_ | refine ap (by simp [osL, D.flat]) ?_)); repeat (first | refine aq ?_ | refine ap (by rfl : apartB 0 _ _ = true) ?_ | refine ak ?_ | refine ab ?_ | refine al ?_ | ((first | refine ar ?_ | refine ad ty_mix (by kernel_rfl) ?_ | refine ac ?_ | refine ae ?_ | with_reducible refine Later.mk ?_); simp only [evD, evL, iteL, St.said, St.asked, evStep, evOp, evP, St.init, St.app, srcStep, kill, setMany, loadS, fieldS, buildS, toks, Fin, upd_app, Array.isEmpty, Nat.reduceLT, Nat.reduceAdd, Nat.reduceMul, Nat.reduceLeDiff, Nat.reduceSub, Nat.reduceEqDiff, reduceCtorEq, reduceIte, ↓Opt.is, ↓Opt.no, ↓Asks.yes, ↓Asks.no, tyL, encL, hw2, asB]))
          refine ⟨h2, ?_⟩
          ((first | refine Le.mk rfl ?_ ?_ | refine LeTo.mk rfl ?_ ?_) <;> simp only [evD, evL, iteL, St.said, St.asked, evStep, evOp, evP, St.init, St.app, srcStep, kill, setMany, loadS, fieldS, buildS, toks, Fin, upd_app, Array.isEmpty, Nat.reduceLT, Nat.reduceAdd, Nat.reduceMul, Nat.reduceLeDiff, Nat.reduceSub, Nat.reduceEqDiff, reduceCtorEq, reduceIte, ↓Opt.is, ↓Opt.no, ↓Asks.yes, ↓Asks.no, tyL, encL, leL, leD, ne_eq, hst2])
      · have h2 : k = q.atoms.length := by have := of_decide_eq_false h2; omega
        subst h2
        repeat (first | refine aq ?_ | refine ap (by rfl : apartB 0 _ _ = true) ?_ | refine ak ?_ | refine ab ?_ | refine al ?_ | ((first | refine ar ?_ | refine ad ty_mix (by kernel_rfl) ?_ | refine ac ?_ | refine ae ?_ | with_reducible refine Later.mk ?_); simp only [evD, evL, iteL, St.said, St.asked, evStep, evOp, evP, St.init, St.app, srcStep, kill, setMany, loadS, fieldS, buildS, toks, Fin, upd_app, Array.isEmpty, Nat.reduceLT, Nat.reduceAdd, Nat.reduceMul, Nat.reduceLeDiff, Nat.reduceSub, Nat.reduceEqDiff, reduceCtorEq, reduceIte, ↓Opt.is, ↓Opt.no, ↓Asks.yes, ↓Asks.no, tyL, encL, hw, asB]))
        refine ⟨h, ?_⟩
        ((first | refine Le.mk rfl ?_ ?_ | refine LeTo.mk rfl ?_ ?_) <;> simp only [evD, evL, iteL, St.said, St.asked, evStep, evOp, evP, St.init, St.app, srcStep, kill, setMany, loadS, fieldS, buildS, toks, Fin, upd_app, Array.isEmpty, Nat.reduceLT, Nat.reduceAdd, Nat.reduceMul, Nat.reduceLeDiff, Nat.reduceSub, Nat.reduceEqDiff, reduceCtorEq, reduceIte, ↓Opt.is, ↓Opt.no, ↓Asks.yes, ↓Asks.no, tyL, encL, leL, leD, ne_eq, hst])
    · have h : i = q.atoms.length := by have := of_decide_eq_false h; omega
      subst h
      have hpl := allA_len l q q.atoms.length q.atoms.length
      have hm9 : q.atoms.length * q.atoms.length ≤ 9 := Nat.le_trans (Nat.mul_le_mul hl3 hl3) (by omega)
      have hz := jnA_size hok (by omega)
      have hj := join_a (allA l q q.atoms.length q.atoms.length) ⟨#[32]⟩ (by omega) (by omega)
      generalize allA l q q.atoms.length q.atoms.length = A at *
      repeat (first | refine aq ?_ | refine ap (by rfl : apartB 0 _ _ = true) ?_ | refine ak ?_ | refine ab ?_ | refine al ?_ | ((first | refine ar ?_ | refine ad ty_mix (by kernel_rfl) ?_ | refine ac ?_ | refine ae ?_ | with_reducible refine Later.mk ?_); simp only [evD, evL, iteL, St.said, St.asked, evStep, evOp, evP, St.init, St.app, srcStep, kill, setMany, loadS, fieldS, buildS, toks, Fin, upd_app, Array.isEmpty, Nat.reduceLT, Nat.reduceAdd, Nat.reduceMul, Nat.reduceLeDiff, Nat.reduceSub, Nat.reduceEqDiff, reduceCtorEq, reduceIte, ↓Opt.is, ↓Opt.no, ↓Asks.yes, ↓Asks.no, tyL, encL, asB]))
      refine ⟨_, hj, ?_⟩; (repeat (first | refine ap (by rfl : apartB 0 _ _ = true) ?_ | refine ap (by simp [osL, D.flat]) ?_)); repeat (first | refine aq ?_ | refine ap (by rfl : apartB 0 _ _ = true) ?_ | refine ak ?_ | refine ab ?_ | refine al ?_ | ((first | refine ar ?_ | refine ad ty_mix (by kernel_rfl) ?_ | refine ac ?_ | refine ae ?_ | with_reducible refine Later.mk ?_); simp only [evD, evL, iteL, St.said, St.asked, evStep, evOp, evP, St.init, St.app, srcStep, kill, setMany, loadS, fieldS, buildS, toks, Fin, upd_app, Array.isEmpty, Nat.reduceLT, Nat.reduceAdd, Nat.reduceMul, Nat.reduceLeDiff, Nat.reduceSub, Nat.reduceEqDiff, reduceCtorEq, reduceIte, ↓Opt.is, ↓Opt.no, ↓Asks.yes, ↓Asks.no, tyL, encL, asB]))
      refine Ab.ret ?_; simp only [evD, evL, iteL, St.said, St.asked, evStep, evOp, evP, St.init, St.app, srcStep, kill, setMany, loadS, fieldS, buildS, toks, Fin, upd_app, Array.isEmpty, Nat.reduceLT, Nat.reduceAdd, Nat.reduceMul, Nat.reduceLeDiff, Nat.reduceSub, Nat.reduceEqDiff, reduceCtorEq, reduceIte, ↓Opt.is, ↓Opt.no, ↓Asks.yes, ↓Asks.no, tyL, List.nodup_cons, encL, Try.f9]
  · rw [hd] at hv
    rw [hd, if_neg (by simp)]
    unfold qryS at hv ⊢
    refine AC.intro Try.func9 rfl (by decide) (by simp [S.res, S.ress]) (by simp [S.os, S.oss]) (by simp [S.wfs, S.wf, dbS]) (by simp [Try.f9]) ?_; rw [Try.ntmps9]
    repeat (first | refine aq ?_ | refine ap (by rfl : apartB 0 _ _ = true) ?_ | refine ak ?_ | refine ab ?_ | refine al ?_ | ((first | refine ar ?_ | refine ad ty_mix (by kernel_rfl) ?_ | refine ac ?_ | refine ae ?_ | with_reducible refine Later.mk ?_); simp only [evD, evL, iteL, St.said, St.asked, evStep, evOp, evP, St.init, St.app, srcStep, kill, setMany, loadS, fieldS, buildS, toks, Fin, upd_app, Array.isEmpty, Nat.reduceLT, Nat.reduceAdd, Nat.reduceMul, Nat.reduceLeDiff, Nat.reduceSub, Nat.reduceEqDiff, reduceCtorEq, reduceIte, ↓Opt.is, ↓Opt.no, ↓Asks.yes, ↓Asks.no, tyL, encL, asB]))
    refine ⟨_, hv, ?_⟩; (repeat (first | refine ap (by rfl : apartB 0 _ _ = true) ?_ | refine ap (by simp [osL, D.flat]) ?_)); repeat (first | refine aq ?_ | refine ap (by rfl : apartB 0 _ _ = true) ?_ | refine ak ?_ | refine ab ?_ | refine al ?_ | ((first | refine ar ?_ | refine ad ty_mix (by kernel_rfl) ?_ | refine ac ?_ | refine ae ?_ | with_reducible refine Later.mk ?_); simp only [evD, evL, iteL, St.said, St.asked, evStep, evOp, evP, St.init, St.app, srcStep, kill, setMany, loadS, fieldS, buildS, toks, Fin, upd_app, Array.isEmpty, Nat.reduceLT, Nat.reduceAdd, Nat.reduceMul, Nat.reduceLeDiff, Nat.reduceSub, Nat.reduceEqDiff, reduceCtorEq, reduceIte, ↓Opt.is, ↓Opt.no, ↓Asks.yes, ↓Asks.no, tyL, encL, asB]))
    refine Ab.ret ?_; simp only [evD, evL, iteL, St.said, St.asked, evStep, evOp, evP, St.init, St.app, srcStep, kill, setMany, loadS, fieldS, buildS, toks, Fin, upd_app, Array.isEmpty, Nat.reduceLT, Nat.reduceAdd, Nat.reduceMul, Nat.reduceLeDiff, Nat.reduceSub, Nat.reduceEqDiff, reduceCtorEq, reduceIte, ↓Opt.is, ↓Opt.no, ↓Asks.yes, ↓Asks.no, tyL, List.nodup_cons, encL, Try.f9]
set_option maxHeartbeats 3200000 in
theorem specFormatAttackGraph_a {l : List Rel} {q : Qry} (gl : (eSlice eRel).good l) (gq : eQry.good q) : AC Try.prog 6 [.d (encRs l), qryS q] (.d (.v (.string (grB l q)))) := by
  have hv := specIsValidQuery_a gl gq
  unfold grB
  unfold qryS at hv ⊢
  rcases Bool.eq_false_or_eq_true (validQ l q) with hd | hd
  · have h3 := (free_bits hd).2.2.2
    have hsl := shapeL_len l q
    have hok : ∀ x, x ∈ allA l q q.atoms.length q.atoms.length → 1 ≤ x.size ∧ x.size ≤ 4 := fun x hx => by
      obtain ⟨a, j, h1, h2, rfl⟩ := allA_mem hx
      exact pcA_size hd h1 h2
    rw [hd] at hv
    rw [hd, if_pos rfl]
    refine AC.intro Try.func6 rfl (by decide) (by simp [S.res, S.ress]) (by simp [S.os, S.oss]) (by simp [S.wfs, S.wf, dbS]) (by simp [Try.f6]) ?_; rw [Try.ntmps6]
    repeat (first | refine aq ?_ | refine ap (by rfl : apartB 0 _ _ = true) ?_ | refine ak ?_ | refine ab ?_ | refine al ?_ | ((first | refine ar ?_ | refine ad ty_mix (by kernel_rfl) ?_ | refine ac ?_ | refine ae ?_ | with_reducible refine Later.mk ?_); simp only [evD, evL, iteL, St.said, St.asked, evStep, evOp, evP, St.init, St.app, srcStep, kill, setMany, loadS, fieldS, buildS, toks, Fin, upd_app, Array.isEmpty, Nat.reduceLT, Nat.reduceAdd, Nat.reduceMul, Nat.reduceLeDiff, Nat.reduceSub, Nat.reduceEqDiff, reduceCtorEq, reduceIte, ↓Opt.is, ↓Opt.no, ↓Asks.yes, ↓Asks.no, tyL, encL, asB]))
    refine Ab.loopI q.atoms.length (fun _ => True) (fun i => mkS 69 [(0, .d (.sl (List.map encR l))), (3, .p 0 0), (5, .d (.v (.string (jn ⟨#[32]⟩ (allA l q q.atoms.length i))))), (6, .d (.v (.int .i64 (i : Int))))] [(0, .box [.d (.v (.int .i64 q.vars)), .d (.sl (List.map encA q.atoms)), .d (.sl (List.map encI q.free))])] 64) trivial ?_ ?_
    · ((first | refine Le.mk rfl ?_ ?_ | refine LeTo.mk rfl ?_ ?_) <;> simp only [evD, evL, iteL, St.said, St.asked, evStep, evOp, evP, St.init, St.app, srcStep, kill, setMany, loadS, fieldS, buildS, toks, Fin, upd_app, Array.isEmpty, Nat.reduceLT, Nat.reduceAdd, Nat.reduceMul, Nat.reduceLeDiff, Nat.reduceSub, Nat.reduceEqDiff, reduceCtorEq, reduceIte, ↓Opt.is, ↓Opt.no, ↓Asks.yes, ↓Asks.no, tyL, encL, leL, leD, ne_eq, allA, jn])
    intro i hi _
    by_cases h : i < q.atoms.length
    · have hdl : decide ((i : Int) < (q.atoms.length : Int)) = true := decide_eq_true (by omega)
      repeat (first | refine aq ?_ | refine ap (by rfl : apartB 0 _ _ = true) ?_ | refine ak ?_ | refine ab ?_ | refine al ?_ | ((first | refine ar ?_ | refine ad ty_mix (by kernel_rfl) ?_ | refine ac ?_ | refine ae ?_ | with_reducible refine Later.mk ?_); simp only [evD, evL, iteL, St.said, St.asked, evStep, evOp, evP, St.init, St.app, srcStep, kill, setMany, loadS, fieldS, buildS, toks, Fin, upd_app, Array.isEmpty, Nat.reduceLT, Nat.reduceAdd, Nat.reduceMul, Nat.reduceLeDiff, Nat.reduceSub, Nat.reduceEqDiff, reduceCtorEq, reduceIte, ↓Opt.is, ↓Opt.no, ↓Asks.yes, ↓Asks.no, tyL, encL, mkS, updl, hdl, asB]))
      refine ⟨_, hv, ?_⟩; (repeat (first | refine ap (by rfl : apartB 0 _ _ = true) ?_ | refine ap (by simp [osL, D.flat]) ?_)); repeat (first | refine aq ?_ | refine ap (by rfl : apartB 0 _ _ = true) ?_ | refine ak ?_ | refine ab ?_ | refine al ?_ | ((first | refine ar ?_ | refine ad ty_mix (by kernel_rfl) ?_ | refine ac ?_ | refine ae ?_ | with_reducible refine Later.mk ?_); simp only [evD, evL, iteL, St.said, St.asked, evStep, evOp, evP, St.init, St.app, srcStep, kill, setMany, loadS, fieldS, buildS, toks, Fin, upd_app, Array.isEmpty, Nat.reduceLT, Nat.reduceAdd, Nat.reduceMul, Nat.reduceLeDiff, Nat.reduceSub, Nat.reduceEqDiff, reduceCtorEq, reduceIte, ↓Opt.is, ↓Opt.no, ↓Asks.yes, ↓Asks.no, tyL, encL, hdl, asB]))
      have hw := wrapN h (by omega)
      have z3 : ∀ x : Nat, (0 ≤ (x : Int)) = True := fun x => eq_true (by omega)
      obtain ⟨a, ha, hra, hna⟩ := atom_rel hd h
      have hma := nmA_at h ha hra
      have hst : allA l q q.atoms.length (i + 1) = allA l q q.atoms.length i ++ rowA l q i q.atoms.length := rfl
      have hpl := allA_len l q q.atoms.length i
      have hm9 : i * q.atoms.length ≤ 6 := Nat.le_trans (Nat.mul_le_mul (show i ≤ 2 by omega) h3) (by omega)
      have hokA : ∀ x, x ∈ allA l q q.atoms.length i → 1 ≤ x.size ∧ x.size ≤ 4 := fun x hx => by
        obtain ⟨a, j, h1, h2, rfl⟩ := allA_mem hx
        exact pcA_size hd (by omega) h2
      generalize allA l q q.atoms.length i = A at *
      refine Ab.loopI q.atoms.length (fun _ => True) (fun k => mkS 69 [(0, .d (.sl (List.map encR l))), (3, .p 0 0), (5, .d (.v (.string (jn ⟨#[32]⟩ (A ++ rowA l q i k))))), (6, .d (.v (.int .i64 (i : Int)))), (7, .d (.v (.int .i64 (k : Int))))] [(0, .box [.d (.v (.int .i64 q.vars)), .d (.sl (List.map encA q.atoms)), .d (.sl (List.map encI q.free))])] 240) trivial ?_ ?_
      · ((first | refine Le.mk rfl ?_ ?_ | refine LeTo.mk rfl ?_ ?_) <;> simp only [evD, evL, iteL, St.said, St.asked, evStep, evOp, evP, St.init, St.app, srcStep, kill, setMany, loadS, fieldS, buildS, toks, Fin, upd_app, Array.isEmpty, Nat.reduceLT, Nat.reduceAdd, Nat.reduceMul, Nat.reduceLeDiff, Nat.reduceSub, Nat.reduceEqDiff, reduceCtorEq, reduceIte, ↓Opt.is, ↓Opt.no, ↓Asks.yes, ↓Asks.no, tyL, encL, leL, leD, ne_eq, rowA, List.append_nil])
      intro k hk _
      repeat (first | refine aq ?_ | refine ap (by rfl : apartB 0 _ _ = true) ?_ | refine ak ?_ | refine ab ?_ | refine al ?_ | ((first | refine ar ?_ | refine ad ty_mix (by kernel_rfl) ?_ | refine ac ?_ | refine ae ?_ | with_reducible refine Later.mk ?_); simp only [evD, evL, iteL, St.said, St.asked, evStep, evOp, evP, St.init, St.app, srcStep, kill, setMany, loadS, fieldS, buildS, toks, Fin, upd_app, Array.isEmpty, Nat.reduceLT, Nat.reduceAdd, Nat.reduceMul, Nat.reduceLeDiff, Nat.reduceSub, Nat.reduceEqDiff, reduceCtorEq, reduceIte, ↓Opt.is, ↓Opt.no, ↓Asks.yes, ↓Asks.no, tyL, encL, mkS, updl, asB]))
      refine ⟨fun h2 => ?_, fun h2 => ?_⟩
      · have h2 : k < q.atoms.length := by simpa using h2
        have hw2 := wrapN h2 (by omega)
        obtain ⟨b, hb, hrb, hnb⟩ := atom_rel hd h2
        have hmb := nmA_at h2 hb hrb
        have hrl := rowA_len l q i k
        have hokR : ∀ x, x ∈ A ++ rowA l q i k → 1 ≤ x.size ∧ x.size ≤ 4 := fun x hx => by
          rcases List.mem_append.1 hx with hx | hx
          · exact hokA x hx
          · obtain ⟨j, h1, rfl⟩ := rowA_mem hx
            exact pcA_size hd h (by omega)
        have hst2 : rowA l q i (k + 1) = rowA l q i k ++ (if hasP (vb q.free) (shapeL l q) i k = true then [pcA l q i k] else []) := rfl
        have hpc : pcA l q i k = l[a].name ++ sgA (weakP (vb q.free) (shapeL l q) i k) ++ l[b].name := by unfold pcA; rw [hma, hmb]
        have hhc := specHasAttack_a gl gq (i : Int) (k : Int)
        have hwc := specIsWeakAttack_a gl gq (i : Int) (k : Int)
        rw [hasL_of hd h h2] at hhc
        rw [weakG_of hd h h2] at hwc
        unfold qryS at hhc hwc
        generalize rowA l q i k = R at *
        rcases Bool.eq_false_or_eq_true (hasP (vb q.free) (shapeL l q) i k) with hp | hp
        · rw [hp] at hhc
          rw [hp, if_pos rfl, hpc] at hst2
          have hje := jnA_ne hokR
          have hjs := jnA_size hokR (by rw [List.length_append]; omega)
          have ya := getR ha
          have yb := getR hb
          have hjn := jn_put ⟨#[32]⟩ (A ++ R) (l[a].name ++ sgA (weakP (vb q.free) (shapeL l q) i k) ++ l[b].name)
          rw [List.append_assoc, ← hst2] at hjn
          generalize hTe : jn ⟨#[32]⟩ (A ++ R) = T at *
          by_cases hAR : A ++ R = []
          · rw [if_pos hAR] at hjn
            rw [decide_eq_true hAR] at hje
            have hT : T = ⟨#[]⟩ := by rw [← hTe, hAR]; rfl
            subst hT
            rcases Bool.eq_false_or_eq_true (weakP (vb q.free) (shapeL l q) i k) with c1 | c1
            · rw [c1] at hwc hjn
              have e3 : sgA true = ⟨#[62]⟩ := rfl
              have es : (⟨#[62]⟩ : ByteArray).size = 1 := rfl
              have en : (⟨#[]⟩ : ByteArray).size = 0 := rfl
              have b1 := addOk (⟨#[]⟩ : ByteArray) l[a].name (by omega)
              have b2 := addOk ((⟨#[]⟩ : ByteArray) ++ l[a].name) ⟨#[62]⟩ (by rw [ByteArray.size_append]; omega)
              have b3 := addOk ((⟨#[]⟩ : ByteArray) ++ l[a].name ++ ⟨#[62]⟩) l[b].name (by rw [ByteArray.size_append, ByteArray.size_append]; omega)
              have hfin : jn ⟨#[32]⟩ (A ++ rowA l q i (k + 1)) = (⟨#[]⟩ : ByteArray) ++ l[a].name ++ ⟨#[62]⟩ ++ l[b].name := by rw [hjn, e3]; rw [bNap]
              repeat (first | refine aq ?_ | refine ap (by rfl : apartB 0 _ _ = true) ?_ | refine ak ?_ | refine ab ?_ | refine al ?_ | ((first | refine ar ?_ | refine ad ty_mix (by kernel_rfl) ?_ | refine ac ?_ | refine ae ?_ | with_reducible refine Later.mk ?_); simp only [evD, evL, iteL, St.said, St.asked, evStep, evOp, evP, St.init, St.app, srcStep, kill, setMany, loadS, fieldS, buildS, toks, Fin, upd_app, Array.isEmpty, Nat.reduceLT, Nat.reduceAdd, Nat.reduceMul, Nat.reduceLeDiff, Nat.reduceSub, Nat.reduceEqDiff, reduceCtorEq, reduceIte, ↓Opt.is, ↓Opt.no, ↓Asks.yes, ↓Asks.no, tyL, encL, asB]))
              refine ⟨_, hhc, ?_⟩; (repeat (first | refine ap (by rfl : apartB 0 _ _ = true) ?_ | refine ap (by simp [osL, D.flat]) ?_)); repeat (first | refine aq ?_ | refine ap (by rfl : apartB 0 _ _ = true) ?_ | refine ak ?_ | refine ab ?_ | refine al ?_ | ((first | refine ar ?_ | refine ad ty_mix (by kernel_rfl) ?_ | refine ac ?_ | refine ae ?_ | with_reducible refine Later.mk ?_); simp only [evD, evL, iteL, St.said, St.asked, evStep, evOp, evP, St.init, St.app, srcStep, kill, setMany, loadS, fieldS, buildS, toks, Fin, upd_app, Array.isEmpty, Nat.reduceLT, Nat.reduceAdd, Nat.reduceMul, Nat.reduceLeDiff, Nat.reduceSub, Nat.reduceEqDiff, reduceCtorEq, reduceIte, ↓Opt.is, ↓Opt.no, ↓Asks.yes, ↓Asks.no, tyL, encL, hje, asB]))
              repeat (first | refine aq ?_ | refine ap (by rfl : apartB 0 _ _ = true) ?_ | refine ak ?_ | refine ab ?_ | refine al ?_ | ((first | refine ar ?_ | refine ad ty_mix (by kernel_rfl) ?_ | refine ac ?_ | refine ae ?_ | with_reducible refine Later.mk ?_); simp only [evD, evL, iteL, St.said, St.asked, evStep, evOp, evP, St.init, St.app, srcStep, kill, setMany, loadS, fieldS, buildS, toks, Fin, upd_app, Array.isEmpty, Nat.reduceLT, Nat.reduceAdd, Nat.reduceMul, Nat.reduceLeDiff, Nat.reduceSub, Nat.reduceEqDiff, reduceCtorEq, reduceIte, ↓Opt.is, ↓Opt.no, ↓Asks.yes, ↓Asks.no, tyL, encL, hje, asB]))
              refine ⟨_, hwc, ?_⟩; (repeat (first | refine ap (by rfl : apartB 0 _ _ = true) ?_ | refine ap (by simp [osL, D.flat]) ?_)); repeat (first | refine aq ?_ | refine ap (by rfl : apartB 0 _ _ = true) ?_ | refine ak ?_ | refine ab ?_ | refine al ?_ | ((first | refine ar ?_ | refine ad ty_mix (by kernel_rfl) ?_ | refine ac ?_ | refine ae ?_ | with_reducible refine Later.mk ?_); simp only [evD, evL, iteL, St.said, St.asked, evStep, evOp, evP, St.init, St.app, srcStep, kill, setMany, loadS, fieldS, buildS, toks, Fin, upd_app, Array.isEmpty, Nat.reduceLT, Nat.reduceAdd, Nat.reduceMul, Nat.reduceLeDiff, Nat.reduceSub, Nat.reduceEqDiff, reduceCtorEq, reduceIte, ↓Opt.is, ↓Opt.no, ↓Asks.yes, ↓Asks.no, tyL, encL, getA h, getA h2, encA, hra, hrb, ya, yb, z3, Int.toNat_natCast, encR, b1, b2, b3, hw2, asB]))
              repeat (first | refine aq ?_ | refine ap (by rfl : apartB 0 _ _ = true) ?_ | refine ak ?_ | refine ab ?_ | refine al ?_ | ((first | refine ar ?_ | refine ad ty_mix (by kernel_rfl) ?_ | refine ac ?_ | refine ae ?_ | with_reducible refine Later.mk ?_); simp only [evD, evL, iteL, St.said, St.asked, evStep, evOp, evP, St.init, St.app, srcStep, kill, setMany, loadS, fieldS, buildS, toks, Fin, upd_app, Array.isEmpty, Nat.reduceLT, Nat.reduceAdd, Nat.reduceMul, Nat.reduceLeDiff, Nat.reduceSub, Nat.reduceEqDiff, reduceCtorEq, reduceIte, ↓Opt.is, ↓Opt.no, ↓Asks.yes, ↓Asks.no, tyL, encL, getA h, getA h2, encA, hra, hrb, ya, yb, z3, Int.toNat_natCast, encR, b1, b2, b3, hw2, asB]))
              refine ⟨h2, ?_⟩
              ((first | refine Le.mk rfl ?_ ?_ | refine LeTo.mk rfl ?_ ?_) <;> simp only [evD, evL, iteL, St.said, St.asked, evStep, evOp, evP, St.init, St.app, srcStep, kill, setMany, loadS, fieldS, buildS, toks, Fin, upd_app, Array.isEmpty, Nat.reduceLT, Nat.reduceAdd, Nat.reduceMul, Nat.reduceLeDiff, Nat.reduceSub, Nat.reduceEqDiff, reduceCtorEq, reduceIte, ↓Opt.is, ↓Opt.no, ↓Asks.yes, ↓Asks.no, tyL, encL, leL, leD, ne_eq, hfin])
            · rw [c1] at hwc hjn
              have e3 : sgA false = ⟨#[62, 62]⟩ := rfl
              have es : (⟨#[62, 62]⟩ : ByteArray).size = 2 := rfl
              have en : (⟨#[]⟩ : ByteArray).size = 0 := rfl
              have b1 := addOk (⟨#[]⟩ : ByteArray) l[a].name (by omega)
              have b2 := addOk ((⟨#[]⟩ : ByteArray) ++ l[a].name) ⟨#[62, 62]⟩ (by rw [ByteArray.size_append]; omega)
              have b3 := addOk ((⟨#[]⟩ : ByteArray) ++ l[a].name ++ ⟨#[62, 62]⟩) l[b].name (by rw [ByteArray.size_append, ByteArray.size_append]; omega)
              have hfin : jn ⟨#[32]⟩ (A ++ rowA l q i (k + 1)) = (⟨#[]⟩ : ByteArray) ++ l[a].name ++ ⟨#[62, 62]⟩ ++ l[b].name := by rw [hjn, e3]; rw [bNap]
              repeat (first | refine aq ?_ | refine ap (by rfl : apartB 0 _ _ = true) ?_ | refine ak ?_ | refine ab ?_ | refine al ?_ | ((first | refine ar ?_ | refine ad ty_mix (by kernel_rfl) ?_ | refine ac ?_ | refine ae ?_ | with_reducible refine Later.mk ?_); simp only [evD, evL, iteL, St.said, St.asked, evStep, evOp, evP, St.init, St.app, srcStep, kill, setMany, loadS, fieldS, buildS, toks, Fin, upd_app, Array.isEmpty, Nat.reduceLT, Nat.reduceAdd, Nat.reduceMul, Nat.reduceLeDiff, Nat.reduceSub, Nat.reduceEqDiff, reduceCtorEq, reduceIte, ↓Opt.is, ↓Opt.no, ↓Asks.yes, ↓Asks.no, tyL, encL, asB]))
              refine ⟨_, hhc, ?_⟩; (repeat (first | refine ap (by rfl : apartB 0 _ _ = true) ?_ | refine ap (by simp [osL, D.flat]) ?_)); repeat (first | refine aq ?_ | refine ap (by rfl : apartB 0 _ _ = true) ?_ | refine ak ?_ | refine ab ?_ | refine al ?_ | ((first | refine ar ?_ | refine ad ty_mix (by kernel_rfl) ?_ | refine ac ?_ | refine ae ?_ | with_reducible refine Later.mk ?_); simp only [evD, evL, iteL, St.said, St.asked, evStep, evOp, evP, St.init, St.app, srcStep, kill, setMany, loadS, fieldS, buildS, toks, Fin, upd_app, Array.isEmpty, Nat.reduceLT, Nat.reduceAdd, Nat.reduceMul, Nat.reduceLeDiff, Nat.reduceSub, Nat.reduceEqDiff, reduceCtorEq, reduceIte, ↓Opt.is, ↓Opt.no, ↓Asks.yes, ↓Asks.no, tyL, encL, hje, asB]))
              repeat (first | refine aq ?_ | refine ap (by rfl : apartB 0 _ _ = true) ?_ | refine ak ?_ | refine ab ?_ | refine al ?_ | ((first | refine ar ?_ | refine ad ty_mix (by kernel_rfl) ?_ | refine ac ?_ | refine ae ?_ | with_reducible refine Later.mk ?_); simp only [evD, evL, iteL, St.said, St.asked, evStep, evOp, evP, St.init, St.app, srcStep, kill, setMany, loadS, fieldS, buildS, toks, Fin, upd_app, Array.isEmpty, Nat.reduceLT, Nat.reduceAdd, Nat.reduceMul, Nat.reduceLeDiff, Nat.reduceSub, Nat.reduceEqDiff, reduceCtorEq, reduceIte, ↓Opt.is, ↓Opt.no, ↓Asks.yes, ↓Asks.no, tyL, encL, hje, asB]))
              refine ⟨_, hwc, ?_⟩; (repeat (first | refine ap (by rfl : apartB 0 _ _ = true) ?_ | refine ap (by simp [osL, D.flat]) ?_)); repeat (first | refine aq ?_ | refine ap (by rfl : apartB 0 _ _ = true) ?_ | refine ak ?_ | refine ab ?_ | refine al ?_ | ((first | refine ar ?_ | refine ad ty_mix (by kernel_rfl) ?_ | refine ac ?_ | refine ae ?_ | with_reducible refine Later.mk ?_); simp only [evD, evL, iteL, St.said, St.asked, evStep, evOp, evP, St.init, St.app, srcStep, kill, setMany, loadS, fieldS, buildS, toks, Fin, upd_app, Array.isEmpty, Nat.reduceLT, Nat.reduceAdd, Nat.reduceMul, Nat.reduceLeDiff, Nat.reduceSub, Nat.reduceEqDiff, reduceCtorEq, reduceIte, ↓Opt.is, ↓Opt.no, ↓Asks.yes, ↓Asks.no, tyL, encL, getA h, getA h2, encA, hra, hrb, ya, yb, z3, Int.toNat_natCast, encR, b1, b2, b3, hw2, asB]))
              repeat (first | refine aq ?_ | refine ap (by rfl : apartB 0 _ _ = true) ?_ | refine ak ?_ | refine ab ?_ | refine al ?_ | ((first | refine ar ?_ | refine ad ty_mix (by kernel_rfl) ?_ | refine ac ?_ | refine ae ?_ | with_reducible refine Later.mk ?_); simp only [evD, evL, iteL, St.said, St.asked, evStep, evOp, evP, St.init, St.app, srcStep, kill, setMany, loadS, fieldS, buildS, toks, Fin, upd_app, Array.isEmpty, Nat.reduceLT, Nat.reduceAdd, Nat.reduceMul, Nat.reduceLeDiff, Nat.reduceSub, Nat.reduceEqDiff, reduceCtorEq, reduceIte, ↓Opt.is, ↓Opt.no, ↓Asks.yes, ↓Asks.no, tyL, encL, getA h, getA h2, encA, hra, hrb, ya, yb, z3, Int.toNat_natCast, encR, b1, b2, b3, hw2, asB]))
              refine ⟨h2, ?_⟩
              ((first | refine Le.mk rfl ?_ ?_ | refine LeTo.mk rfl ?_ ?_) <;> simp only [evD, evL, iteL, St.said, St.asked, evStep, evOp, evP, St.init, St.app, srcStep, kill, setMany, loadS, fieldS, buildS, toks, Fin, upd_app, Array.isEmpty, Nat.reduceLT, Nat.reduceAdd, Nat.reduceMul, Nat.reduceLeDiff, Nat.reduceSub, Nat.reduceEqDiff, reduceCtorEq, reduceIte, ↓Opt.is, ↓Opt.no, ↓Asks.yes, ↓Asks.no, tyL, encL, leL, leD, ne_eq, hfin])
          · rw [if_neg hAR] at hjn
            rw [decide_eq_false hAR] at hje
            rcases Bool.eq_false_or_eq_true (weakP (vb q.free) (shapeL l q) i k) with c1 | c1
            · rw [c1] at hwc hjn
              have e3 : sgA true = ⟨#[62]⟩ := rfl
              have es : (⟨#[62]⟩ : ByteArray).size = 1 := rfl
              have en : (⟨#[32]⟩ : ByteArray).size = 1 := rfl
              have b0 := addOk T ⟨#[32]⟩ (by omega)
              have b1 := addOk (T ++ ⟨#[32]⟩) l[a].name (by rw [ByteArray.size_append]; omega)
              have b2 := addOk ((T ++ ⟨#[32]⟩) ++ l[a].name) ⟨#[62]⟩ (by rw [ByteArray.size_append]; rw [ByteArray.size_append]; omega)
              have b3 := addOk ((T ++ ⟨#[32]⟩) ++ l[a].name ++ ⟨#[62]⟩) l[b].name (by rw [ByteArray.size_append, ByteArray.size_append]; rw [ByteArray.size_append]; omega)
              have hfin : jn ⟨#[32]⟩ (A ++ rowA l q i (k + 1)) = (T ++ ⟨#[32]⟩) ++ l[a].name ++ ⟨#[62]⟩ ++ l[b].name := by rw [hjn, e3]; simp only [ByteArray.append_assoc]
              repeat (first | refine aq ?_ | refine ap (by rfl : apartB 0 _ _ = true) ?_ | refine ak ?_ | refine ab ?_ | refine al ?_ | ((first | refine ar ?_ | refine ad ty_mix (by kernel_rfl) ?_ | refine ac ?_ | refine ae ?_ | with_reducible refine Later.mk ?_); simp only [evD, evL, iteL, St.said, St.asked, evStep, evOp, evP, St.init, St.app, srcStep, kill, setMany, loadS, fieldS, buildS, toks, Fin, upd_app, Array.isEmpty, Nat.reduceLT, Nat.reduceAdd, Nat.reduceMul, Nat.reduceLeDiff, Nat.reduceSub, Nat.reduceEqDiff, reduceCtorEq, reduceIte, ↓Opt.is, ↓Opt.no, ↓Asks.yes, ↓Asks.no, tyL, encL, asB]))
              refine ⟨_, hhc, ?_⟩; (repeat (first | refine ap (by rfl : apartB 0 _ _ = true) ?_ | refine ap (by simp [osL, D.flat]) ?_)); repeat (first | refine aq ?_ | refine ap (by rfl : apartB 0 _ _ = true) ?_ | refine ak ?_ | refine ab ?_ | refine al ?_ | ((first | refine ar ?_ | refine ad ty_mix (by kernel_rfl) ?_ | refine ac ?_ | refine ae ?_ | with_reducible refine Later.mk ?_); simp only [evD, evL, iteL, St.said, St.asked, evStep, evOp, evP, St.init, St.app, srcStep, kill, setMany, loadS, fieldS, buildS, toks, Fin, upd_app, Array.isEmpty, Nat.reduceLT, Nat.reduceAdd, Nat.reduceMul, Nat.reduceLeDiff, Nat.reduceSub, Nat.reduceEqDiff, reduceCtorEq, reduceIte, ↓Opt.is, ↓Opt.no, ↓Asks.yes, ↓Asks.no, tyL, encL, hje, b0, asB]))
              repeat (first | refine aq ?_ | refine ap (by rfl : apartB 0 _ _ = true) ?_ | refine ak ?_ | refine ab ?_ | refine al ?_ | ((first | refine ar ?_ | refine ad ty_mix (by kernel_rfl) ?_ | refine ac ?_ | refine ae ?_ | with_reducible refine Later.mk ?_); simp only [evD, evL, iteL, St.said, St.asked, evStep, evOp, evP, St.init, St.app, srcStep, kill, setMany, loadS, fieldS, buildS, toks, Fin, upd_app, Array.isEmpty, Nat.reduceLT, Nat.reduceAdd, Nat.reduceMul, Nat.reduceLeDiff, Nat.reduceSub, Nat.reduceEqDiff, reduceCtorEq, reduceIte, ↓Opt.is, ↓Opt.no, ↓Asks.yes, ↓Asks.no, tyL, encL, hje, b0, asB]))
              refine ⟨_, hwc, ?_⟩; (repeat (first | refine ap (by rfl : apartB 0 _ _ = true) ?_ | refine ap (by simp [osL, D.flat]) ?_)); repeat (first | refine aq ?_ | refine ap (by rfl : apartB 0 _ _ = true) ?_ | refine ak ?_ | refine ab ?_ | refine al ?_ | ((first | refine ar ?_ | refine ad ty_mix (by kernel_rfl) ?_ | refine ac ?_ | refine ae ?_ | with_reducible refine Later.mk ?_); simp only [evD, evL, iteL, St.said, St.asked, evStep, evOp, evP, St.init, St.app, srcStep, kill, setMany, loadS, fieldS, buildS, toks, Fin, upd_app, Array.isEmpty, Nat.reduceLT, Nat.reduceAdd, Nat.reduceMul, Nat.reduceLeDiff, Nat.reduceSub, Nat.reduceEqDiff, reduceCtorEq, reduceIte, ↓Opt.is, ↓Opt.no, ↓Asks.yes, ↓Asks.no, tyL, encL, getA h, getA h2, encA, hra, hrb, ya, yb, z3, Int.toNat_natCast, encR, b1, b2, b3, hw2, asB]))
              repeat (first | refine aq ?_ | refine ap (by rfl : apartB 0 _ _ = true) ?_ | refine ak ?_ | refine ab ?_ | refine al ?_ | ((first | refine ar ?_ | refine ad ty_mix (by kernel_rfl) ?_ | refine ac ?_ | refine ae ?_ | with_reducible refine Later.mk ?_); simp only [evD, evL, iteL, St.said, St.asked, evStep, evOp, evP, St.init, St.app, srcStep, kill, setMany, loadS, fieldS, buildS, toks, Fin, upd_app, Array.isEmpty, Nat.reduceLT, Nat.reduceAdd, Nat.reduceMul, Nat.reduceLeDiff, Nat.reduceSub, Nat.reduceEqDiff, reduceCtorEq, reduceIte, ↓Opt.is, ↓Opt.no, ↓Asks.yes, ↓Asks.no, tyL, encL, getA h, getA h2, encA, hra, hrb, ya, yb, z3, Int.toNat_natCast, encR, b1, b2, b3, hw2, asB]))
              refine ⟨h2, ?_⟩
              ((first | refine Le.mk rfl ?_ ?_ | refine LeTo.mk rfl ?_ ?_) <;> simp only [evD, evL, iteL, St.said, St.asked, evStep, evOp, evP, St.init, St.app, srcStep, kill, setMany, loadS, fieldS, buildS, toks, Fin, upd_app, Array.isEmpty, Nat.reduceLT, Nat.reduceAdd, Nat.reduceMul, Nat.reduceLeDiff, Nat.reduceSub, Nat.reduceEqDiff, reduceCtorEq, reduceIte, ↓Opt.is, ↓Opt.no, ↓Asks.yes, ↓Asks.no, tyL, encL, leL, leD, ne_eq, hfin])
            · rw [c1] at hwc hjn
              have e3 : sgA false = ⟨#[62, 62]⟩ := rfl
              have es : (⟨#[62, 62]⟩ : ByteArray).size = 2 := rfl
              have en : (⟨#[32]⟩ : ByteArray).size = 1 := rfl
              have b0 := addOk T ⟨#[32]⟩ (by omega)
              have b1 := addOk (T ++ ⟨#[32]⟩) l[a].name (by rw [ByteArray.size_append]; omega)
              have b2 := addOk ((T ++ ⟨#[32]⟩) ++ l[a].name) ⟨#[62, 62]⟩ (by rw [ByteArray.size_append]; rw [ByteArray.size_append]; omega)
              have b3 := addOk ((T ++ ⟨#[32]⟩) ++ l[a].name ++ ⟨#[62, 62]⟩) l[b].name (by rw [ByteArray.size_append, ByteArray.size_append]; rw [ByteArray.size_append]; omega)
              have hfin : jn ⟨#[32]⟩ (A ++ rowA l q i (k + 1)) = (T ++ ⟨#[32]⟩) ++ l[a].name ++ ⟨#[62, 62]⟩ ++ l[b].name := by rw [hjn, e3]; simp only [ByteArray.append_assoc]
              repeat (first | refine aq ?_ | refine ap (by rfl : apartB 0 _ _ = true) ?_ | refine ak ?_ | refine ab ?_ | refine al ?_ | ((first | refine ar ?_ | refine ad ty_mix (by kernel_rfl) ?_ | refine ac ?_ | refine ae ?_ | with_reducible refine Later.mk ?_); simp only [evD, evL, iteL, St.said, St.asked, evStep, evOp, evP, St.init, St.app, srcStep, kill, setMany, loadS, fieldS, buildS, toks, Fin, upd_app, Array.isEmpty, Nat.reduceLT, Nat.reduceAdd, Nat.reduceMul, Nat.reduceLeDiff, Nat.reduceSub, Nat.reduceEqDiff, reduceCtorEq, reduceIte, ↓Opt.is, ↓Opt.no, ↓Asks.yes, ↓Asks.no, tyL, encL, asB]))
              refine ⟨_, hhc, ?_⟩; (repeat (first | refine ap (by rfl : apartB 0 _ _ = true) ?_ | refine ap (by simp [osL, D.flat]) ?_)); repeat (first | refine aq ?_ | refine ap (by rfl : apartB 0 _ _ = true) ?_ | refine ak ?_ | refine ab ?_ | refine al ?_ | ((first | refine ar ?_ | refine ad ty_mix (by kernel_rfl) ?_ | refine ac ?_ | refine ae ?_ | with_reducible refine Later.mk ?_); simp only [evD, evL, iteL, St.said, St.asked, evStep, evOp, evP, St.init, St.app, srcStep, kill, setMany, loadS, fieldS, buildS, toks, Fin, upd_app, Array.isEmpty, Nat.reduceLT, Nat.reduceAdd, Nat.reduceMul, Nat.reduceLeDiff, Nat.reduceSub, Nat.reduceEqDiff, reduceCtorEq, reduceIte, ↓Opt.is, ↓Opt.no, ↓Asks.yes, ↓Asks.no, tyL, encL, hje, b0, asB]))
              repeat (first | refine aq ?_ | refine ap (by rfl : apartB 0 _ _ = true) ?_ | refine ak ?_ | refine ab ?_ | refine al ?_ | ((first | refine ar ?_ | refine ad ty_mix (by kernel_rfl) ?_ | refine ac ?_ | refine ae ?_ | with_reducible refine Later.mk ?_); simp only [evD, evL, iteL, St.said, St.asked, evStep, evOp, evP, St.init, St.app, srcStep, kill, setMany, loadS, fieldS, buildS, toks, Fin, upd_app, Array.isEmpty, Nat.reduceLT, Nat.reduceAdd, Nat.reduceMul, Nat.reduceLeDiff, Nat.reduceSub, Nat.reduceEqDiff, reduceCtorEq, reduceIte, ↓Opt.is, ↓Opt.no, ↓Asks.yes, ↓Asks.no, tyL, encL, hje, b0, asB]))
              refine ⟨_, hwc, ?_⟩; (repeat (first | refine ap (by rfl : apartB 0 _ _ = true) ?_ | refine ap (by simp [osL, D.flat]) ?_)); repeat (first | refine aq ?_ | refine ap (by rfl : apartB 0 _ _ = true) ?_ | refine ak ?_ | refine ab ?_ | refine al ?_ | ((first | refine ar ?_ | refine ad ty_mix (by kernel_rfl) ?_ | refine ac ?_ | refine ae ?_ | with_reducible refine Later.mk ?_); simp only [evD, evL, iteL, St.said, St.asked, evStep, evOp, evP, St.init, St.app, srcStep, kill, setMany, loadS, fieldS, buildS, toks, Fin, upd_app, Array.isEmpty, Nat.reduceLT, Nat.reduceAdd, Nat.reduceMul, Nat.reduceLeDiff, Nat.reduceSub, Nat.reduceEqDiff, reduceCtorEq, reduceIte, ↓Opt.is, ↓Opt.no, ↓Asks.yes, ↓Asks.no, tyL, encL, getA h, getA h2, encA, hra, hrb, ya, yb, z3, Int.toNat_natCast, encR, b1, b2, b3, hw2, asB]))
              repeat (first | refine aq ?_ | refine ap (by rfl : apartB 0 _ _ = true) ?_ | refine ak ?_ | refine ab ?_ | refine al ?_ | ((first | refine ar ?_ | refine ad ty_mix (by kernel_rfl) ?_ | refine ac ?_ | refine ae ?_ | with_reducible refine Later.mk ?_); simp only [evD, evL, iteL, St.said, St.asked, evStep, evOp, evP, St.init, St.app, srcStep, kill, setMany, loadS, fieldS, buildS, toks, Fin, upd_app, Array.isEmpty, Nat.reduceLT, Nat.reduceAdd, Nat.reduceMul, Nat.reduceLeDiff, Nat.reduceSub, Nat.reduceEqDiff, reduceCtorEq, reduceIte, ↓Opt.is, ↓Opt.no, ↓Asks.yes, ↓Asks.no, tyL, encL, getA h, getA h2, encA, hra, hrb, ya, yb, z3, Int.toNat_natCast, encR, b1, b2, b3, hw2, asB]))
              refine ⟨h2, ?_⟩
              ((first | refine Le.mk rfl ?_ ?_ | refine LeTo.mk rfl ?_ ?_) <;> simp only [evD, evL, iteL, St.said, St.asked, evStep, evOp, evP, St.init, St.app, srcStep, kill, setMany, loadS, fieldS, buildS, toks, Fin, upd_app, Array.isEmpty, Nat.reduceLT, Nat.reduceAdd, Nat.reduceMul, Nat.reduceLeDiff, Nat.reduceSub, Nat.reduceEqDiff, reduceCtorEq, reduceIte, ↓Opt.is, ↓Opt.no, ↓Asks.yes, ↓Asks.no, tyL, encL, leL, leD, ne_eq, hfin])
        · rw [hp] at hhc
          rw [hp, if_neg (by simp), List.append_nil] at hst2
          repeat (first | refine aq ?_ | refine ap (by rfl : apartB 0 _ _ = true) ?_ | refine ak ?_ | refine ab ?_ | refine al ?_ | ((first | refine ar ?_ | refine ad ty_mix (by kernel_rfl) ?_ | refine ac ?_ | refine ae ?_ | with_reducible refine Later.mk ?_); simp only [evD, evL, iteL, St.said, St.asked, evStep, evOp, evP, St.init, St.app, srcStep, kill, setMany, loadS, fieldS, buildS, toks, Fin, upd_app, Array.isEmpty, Nat.reduceLT, Nat.reduceAdd, Nat.reduceMul, Nat.reduceLeDiff, Nat.reduceSub, Nat.reduceEqDiff, reduceCtorEq, reduceIte, ↓Opt.is, ↓Opt.no, ↓Asks.yes, ↓Asks.no, tyL, encL, asB]))
          refine ⟨_, hhc, ?_⟩; (repeat (first | refine ap (by rfl : apartB 0 _ _ = true) ?_ | refine ap (by simp [osL, D.flat]) ?_)); repeat (first | refine aq ?_ | refine ap (by rfl : apartB 0 _ _ = true) ?_ | refine ak ?_ | refine ab ?_ | refine al ?_ | ((first | refine ar ?_ | refine ad ty_mix (by kernel_rfl) ?_ | refine ac ?_ | refine ae ?_ | with_reducible refine Later.mk ?_); simp only [evD, evL, iteL, St.said, St.asked, evStep, evOp, evP, St.init, St.app, srcStep, kill, setMany, loadS, fieldS, buildS, toks, Fin, upd_app, Array.isEmpty, Nat.reduceLT, Nat.reduceAdd, Nat.reduceMul, Nat.reduceLeDiff, Nat.reduceSub, Nat.reduceEqDiff, reduceCtorEq, reduceIte, ↓Opt.is, ↓Opt.no, ↓Asks.yes, ↓Asks.no, tyL, encL, hw2, asB]))
          refine ⟨h2, ?_⟩
          ((first | refine Le.mk rfl ?_ ?_ | refine LeTo.mk rfl ?_ ?_) <;> simp only [evD, evL, iteL, St.said, St.asked, evStep, evOp, evP, St.init, St.app, srcStep, kill, setMany, loadS, fieldS, buildS, toks, Fin, upd_app, Array.isEmpty, Nat.reduceLT, Nat.reduceAdd, Nat.reduceMul, Nat.reduceLeDiff, Nat.reduceSub, Nat.reduceEqDiff, reduceCtorEq, reduceIte, ↓Opt.is, ↓Opt.no, ↓Asks.yes, ↓Asks.no, tyL, encL, leL, leD, ne_eq, hst2])
      · have h2 : k = q.atoms.length := by have := of_decide_eq_false h2; omega
        subst h2
        repeat (first | refine aq ?_ | refine ap (by rfl : apartB 0 _ _ = true) ?_ | refine ak ?_ | refine ab ?_ | refine al ?_ | ((first | refine ar ?_ | refine ad ty_mix (by kernel_rfl) ?_ | refine ac ?_ | refine ae ?_ | with_reducible refine Later.mk ?_); simp only [evD, evL, iteL, St.said, St.asked, evStep, evOp, evP, St.init, St.app, srcStep, kill, setMany, loadS, fieldS, buildS, toks, Fin, upd_app, Array.isEmpty, Nat.reduceLT, Nat.reduceAdd, Nat.reduceMul, Nat.reduceLeDiff, Nat.reduceSub, Nat.reduceEqDiff, reduceCtorEq, reduceIte, ↓Opt.is, ↓Opt.no, ↓Asks.yes, ↓Asks.no, tyL, encL, hw, asB]))
        refine ⟨h, ?_⟩
        ((first | refine Le.mk rfl ?_ ?_ | refine LeTo.mk rfl ?_ ?_) <;> simp only [evD, evL, iteL, St.said, St.asked, evStep, evOp, evP, St.init, St.app, srcStep, kill, setMany, loadS, fieldS, buildS, toks, Fin, upd_app, Array.isEmpty, Nat.reduceLT, Nat.reduceAdd, Nat.reduceMul, Nat.reduceLeDiff, Nat.reduceSub, Nat.reduceEqDiff, reduceCtorEq, reduceIte, ↓Opt.is, ↓Opt.no, ↓Asks.yes, ↓Asks.no, tyL, encL, leL, leD, ne_eq, hst])
    · have h : i = q.atoms.length := by omega
      subst h
      have hdl : decide ((q.atoms.length : Int) < (q.atoms.length : Int)) = false := decide_eq_false (by omega)
      generalize jn ⟨#[32]⟩ (allA l q q.atoms.length q.atoms.length) = A at *
      repeat (first | refine aq ?_ | refine ap (by rfl : apartB 0 _ _ = true) ?_ | refine ak ?_ | refine ab ?_ | refine al ?_ | ((first | refine ar ?_ | refine ad ty_mix (by kernel_rfl) ?_ | refine ac ?_ | refine ae ?_ | with_reducible refine Later.mk ?_); simp only [evD, evL, iteL, St.said, St.asked, evStep, evOp, evP, St.init, St.app, srcStep, kill, setMany, loadS, fieldS, buildS, toks, Fin, upd_app, Array.isEmpty, Nat.reduceLT, Nat.reduceAdd, Nat.reduceMul, Nat.reduceLeDiff, Nat.reduceSub, Nat.reduceEqDiff, reduceCtorEq, reduceIte, ↓Opt.is, ↓Opt.no, ↓Asks.yes, ↓Asks.no, tyL, encL, mkS, updl, hdl, asB]))
      refine Ab.ret ?_; simp only [evD, evL, iteL, St.said, St.asked, evStep, evOp, evP, St.init, St.app, srcStep, kill, setMany, loadS, fieldS, buildS, toks, Fin, upd_app, Array.isEmpty, Nat.reduceLT, Nat.reduceAdd, Nat.reduceMul, Nat.reduceLeDiff, Nat.reduceSub, Nat.reduceEqDiff, reduceCtorEq, reduceIte, ↓Opt.is, ↓Opt.no, ↓Asks.yes, ↓Asks.no, tyL, List.nodup_cons, encL, Try.f6]
  · rw [hd] at hv
    rw [hd, if_neg (by simp)]
    refine AC.intro Try.func6 rfl (by decide) (by simp [S.res, S.ress]) (by simp [S.os, S.oss]) (by simp [S.wfs, S.wf, dbS]) (by simp [Try.f6]) ?_; rw [Try.ntmps6]
    repeat (first | refine aq ?_ | refine ap (by rfl : apartB 0 _ _ = true) ?_ | refine ak ?_ | refine ab ?_ | refine al ?_ | ((first | refine ar ?_ | refine ad ty_mix (by kernel_rfl) ?_ | refine ac ?_ | refine ae ?_ | with_reducible refine Later.mk ?_); simp only [evD, evL, iteL, St.said, St.asked, evStep, evOp, evP, St.init, St.app, srcStep, kill, setMany, loadS, fieldS, buildS, toks, Fin, upd_app, Array.isEmpty, Nat.reduceLT, Nat.reduceAdd, Nat.reduceMul, Nat.reduceLeDiff, Nat.reduceSub, Nat.reduceEqDiff, reduceCtorEq, reduceIte, ↓Opt.is, ↓Opt.no, ↓Asks.yes, ↓Asks.no, tyL, encL, asB]))
    refine Ab.loopI 0 (fun _ => True) (fun i => mkS 69 [(0, .d (.sl (List.map encR l))), (3, .p 0 0), (5, .d (.v (.string ⟨#[]⟩))), (6, .d (.v (.int .i64 0)))] [(0, .box [.d (.v (.int .i64 q.vars)), .d (.sl (List.map encA q.atoms)), .d (.sl (List.map encI q.free))])] 64) trivial ?_ ?_
    · ((first | refine Le.mk rfl ?_ ?_ | refine LeTo.mk rfl ?_ ?_) <;> simp only [evD, evL, iteL, St.said, St.asked, evStep, evOp, evP, St.init, St.app, srcStep, kill, setMany, loadS, fieldS, buildS, toks, Fin, upd_app, Array.isEmpty, Nat.reduceLT, Nat.reduceAdd, Nat.reduceMul, Nat.reduceLeDiff, Nat.reduceSub, Nat.reduceEqDiff, reduceCtorEq, reduceIte, ↓Opt.is, ↓Opt.no, ↓Asks.yes, ↓Asks.no, tyL, encL, leL, leD, ne_eq])
    intro i hi _
    rcases Nat.eq_zero_or_pos q.atoms.length with h0 | h0
    · have hdl : decide ((0 : Int) < (q.atoms.length : Int)) = false := decide_eq_false (by omega)
      repeat (first | refine aq ?_ | refine ap (by rfl : apartB 0 _ _ = true) ?_ | refine ak ?_ | refine ab ?_ | refine al ?_ | ((first | refine ar ?_ | refine ad ty_mix (by kernel_rfl) ?_ | refine ac ?_ | refine ae ?_ | with_reducible refine Later.mk ?_); simp only [evD, evL, iteL, St.said, St.asked, evStep, evOp, evP, St.init, St.app, srcStep, kill, setMany, loadS, fieldS, buildS, toks, Fin, upd_app, Array.isEmpty, Nat.reduceLT, Nat.reduceAdd, Nat.reduceMul, Nat.reduceLeDiff, Nat.reduceSub, Nat.reduceEqDiff, reduceCtorEq, reduceIte, ↓Opt.is, ↓Opt.no, ↓Asks.yes, ↓Asks.no, tyL, encL, mkS, updl, hdl, asB]))
      refine Ab.ret ?_; simp only [evD, evL, iteL, St.said, St.asked, evStep, evOp, evP, St.init, St.app, srcStep, kill, setMany, loadS, fieldS, buildS, toks, Fin, upd_app, Array.isEmpty, Nat.reduceLT, Nat.reduceAdd, Nat.reduceMul, Nat.reduceLeDiff, Nat.reduceSub, Nat.reduceEqDiff, reduceCtorEq, reduceIte, ↓Opt.is, ↓Opt.no, ↓Asks.yes, ↓Asks.no, tyL, List.nodup_cons, encL, Try.f6]
    · have hdl : decide ((0 : Int) < (q.atoms.length : Int)) = true := decide_eq_true (by omega)
      repeat (first | refine aq ?_ | refine ap (by rfl : apartB 0 _ _ = true) ?_ | refine ak ?_ | refine ab ?_ | refine al ?_ | ((first | refine ar ?_ | refine ad ty_mix (by kernel_rfl) ?_ | refine ac ?_ | refine ae ?_ | with_reducible refine Later.mk ?_); simp only [evD, evL, iteL, St.said, St.asked, evStep, evOp, evP, St.init, St.app, srcStep, kill, setMany, loadS, fieldS, buildS, toks, Fin, upd_app, Array.isEmpty, Nat.reduceLT, Nat.reduceAdd, Nat.reduceMul, Nat.reduceLeDiff, Nat.reduceSub, Nat.reduceEqDiff, reduceCtorEq, reduceIte, ↓Opt.is, ↓Opt.no, ↓Asks.yes, ↓Asks.no, tyL, encL, mkS, updl, hdl, asB]))
      refine ⟨_, hv, ?_⟩; (repeat (first | refine ap (by rfl : apartB 0 _ _ = true) ?_ | refine ap (by simp [osL, D.flat]) ?_)); repeat (first | refine aq ?_ | refine ap (by rfl : apartB 0 _ _ = true) ?_ | refine ak ?_ | refine ab ?_ | refine al ?_ | ((first | refine ar ?_ | refine ad ty_mix (by kernel_rfl) ?_ | refine ac ?_ | refine ae ?_ | with_reducible refine Later.mk ?_); simp only [evD, evL, iteL, St.said, St.asked, evStep, evOp, evP, St.init, St.app, srcStep, kill, setMany, loadS, fieldS, buildS, toks, Fin, upd_app, Array.isEmpty, Nat.reduceLT, Nat.reduceAdd, Nat.reduceMul, Nat.reduceLeDiff, Nat.reduceSub, Nat.reduceEqDiff, reduceCtorEq, reduceIte, ↓Opt.is, ↓Opt.no, ↓Asks.yes, ↓Asks.no, tyL, encL, hdl, asB]))
      refine Ab.ret ?_; simp only [evD, evL, iteL, St.said, St.asked, evStep, evOp, evP, St.init, St.app, srcStep, kill, setMany, loadS, fieldS, buildS, toks, Fin, upd_app, Array.isEmpty, Nat.reduceLT, Nat.reduceAdd, Nat.reduceMul, Nat.reduceLeDiff, Nat.reduceSub, Nat.reduceEqDiff, reduceCtorEq, reduceIte, ↓Opt.is, ↓Opt.no, ↓Asks.yes, ↓Asks.no, tyL, List.nodup_cons, encL, Try.f6]
end Go.Proofs.Yteabehbpfhfljaa.Ab

