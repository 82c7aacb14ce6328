/- Texts behind FnExactDeletedFactCount, put together. -/
import Derived.Test.YtgipcnofonejcaaDoorMgFnExactSubsetRepairsF
section
open Go Go.Proofs Go.RowKit
namespace Go.Proofs.YtgipcnofonejcaaDoor.Ab
set_option linter.unusedSimpArgs false
set_option linter.unusedVariables false
set_option maxRecDepth 100000
theorem getB {l : List (List Int)} {i : Nat} (h : i < l.length) : (l.map encB)[i]? = some [encIs l[i]] := by simp [h, encB]
end Go.Proofs.YtgipcnofonejcaaDoor.Ab


end

section
namespace Go.Proofs.YtgipcnofonejcaaDoor.Ab
open Go.RowKit
set_option linter.unusedSimpArgs false
set_option linter.unusedSectionVars false
set_option linter.unusedVariables false
set_option maxRecDepth 100000
section
variable {w : World} {G : Gh} {m : Nat → B} {i j : Nat} (hj : m j = .none)
include hj
end
theorem renL_nil {i j : Nat} : (fun _ : Nat => S.u) = fun k => ((fun _ : Nat => S.u) k).ren i j := by funext k; simp only [S.ren]
theorem renL_cons {i j : Nat} {f g : Nat → S} {t : Nat} {x : S} (h : f = fun k => (g k).ren i j) : upd f t (x.ren i j) = fun k => (upd g t x k).ren i j := by
  funext k
  by_cases e : k = t
  · subst e; rw [upd_same, upd_same]
  · rw [upd_ne _ _ _ e, upd_ne _ _ _ e, h]
theorem renM_nil {i j : Nat} : (fun _ : Nat => B.none) = renM i j (fun _ => .none) := by
  funext k
  unfold renM
  split
  · rfl
  · split <;> rfl
theorem renM_cons {i j : Nat} {f g : Nat → B} {t : Nat} {x : B} (hij : i ≠ j) (ht : t ≠ j) (h : f = renM i j g) : upd f (rn i j t) (x.ren i j) = renM i j (upd g t x) := by
  funext k
  rw [h]
  unfold rn renM
  by_cases h1 : t = i
  · subst h1
    rw [if_pos rfl]
    by_cases h2 : k = j
    · subst h2; rw [upd_same, if_pos rfl, upd_same]
    · rw [upd_ne _ _ _ h2, if_neg h2, if_neg h2]
      by_cases h3 : k = t
      · rw [if_pos h3, if_pos h3]
      · rw [if_neg h3, if_neg h3, upd_ne _ _ _ h3]
  · rw [if_neg h1]
    by_cases h2 : k = t
    · subst h2
      rw [upd_same, if_neg ht, if_neg h1, upd_same]
    · rw [upd_ne _ _ _ h2, upd_ne _ _ _ h2]
      by_cases h3 : k = j
      · rw [if_pos h3, if_pos h3, upd_ne _ _ _ (fun e => h1 e.symm)]
      · rw [if_neg h3, if_neg h3]
/-- The same by the lists. -/
theorem LeTo.renm {s : St} {L L' : List (Nat × S)} {M M' : List (Nat × B)} {n nx nx' : Nat} (i j : Nat) (L0 : List (Nat × S)) (M0 : List (Nat × B)) (eL : L = L0) (eM : M = M0) (hij : i ≠ j) (hne : (M.all fun p => decide (p.1 ≠ j)) = true) (hL : L' = L.map fun p => (p.1, p.2.ren i j)) (hM : M' = M.map fun p => (rn i j p.1, p.2.ren i j)) (h : Le s (mkS n L M nx)) (hfr : (M.all fun p => B.frOk i j p.1 p.2) = true := by rfl) : @LeTo s ⟨mkS n L' M' nx'⟩ := by
  subst eL eM
  have h1 : ∀ M : List (Nat × B), (M.all fun p => decide (p.1 ≠ j)) = true → updl (fun _ => B.none) M j = .none := by
    intro M
    induction M with
    | nil => exact fun _ => rfl
    | cons p M ih =>
      intro h
      simp only [List.all_cons, Bool.and_eq_true, decide_eq_true_eq] at h
      simp only [updl]
      rw [upd_ne _ _ _ (fun e => h.1 e.symm)]
      exact ih h.2
  have h2 : ∀ L : List (Nat × S), updl (fun _ => S.u) (L.map fun p => (p.1, p.2.ren i j)) = fun k => (updl (fun _ => S.u) L k).ren i j := by
    intro L
    induction L with
    | nil => exact renL_nil
    | cons p L ih => exact renL_cons ih
  have h3 : ∀ M : List (Nat × B), (M.all fun p => decide (p.1 ≠ j)) = true → updl (fun _ => B.none) (M.map fun p => (rn i j p.1, p.2.ren i j)) = renM i j (updl (fun _ => B.none) M) := by
    intro M
    induction M with
    | nil => exact fun _ => renM_nil
    | cons p M ih =>
      intro h
      simp only [List.all_cons, Bool.and_eq_true, decide_eq_true_eq] at h
      exact renM_cons hij h.1 (ih h.2)
  exact LeTo.ren hij h (h1 M hne) (by rw [hL]; exact h2 L) (by rw [hM]; exact h3 M hne) hfr
end Go.Proofs.YtgipcnofonejcaaDoor.Ab

namespace Go.Proofs.YtgipcnofonejcaaDoor.Ab
open Go.RowKit
set_option linter.unusedSimpArgs false
set_option linter.unusedVariables false
set_option maxRecDepth 100000
end Go.Proofs.YtgipcnofonejcaaDoor.Ab

namespace Go.Proofs.YtgipcnofonejcaaDoor.Ab
open Go.RowKit
set_option linter.unusedSimpArgs false
set_option linter.unusedVariables false
set_option maxRecDepth 100000
end Go.Proofs.YtgipcnofonejcaaDoor.Ab


end

section
namespace Go.Proofs.YtgipcnofonejcaaDoor.Ab
set_option linter.unusedSimpArgs false
set_option linter.unusedVariables false
set_option maxRecDepth 100000
end Go.Proofs.YtgipcnofonejcaaDoor.Ab

namespace Go.Proofs.YtgipcnofonejcaaDoor.Ab
set_option linter.unusedSimpArgs false
set_option linter.unusedVariables false
set_option maxRecDepth 100000
end Go.Proofs.YtgipcnofonejcaaDoor.Ab

open Go Go.Proofs Go.RowKit
namespace Go.Proofs.YtgipcnofonejcaaDoor.Ab
set_option linter.unusedSimpArgs false
set_option linter.unusedVariables false
set_option maxRecDepth 100000
theorem eq0N (a : Nat) : (((a : Nat) : Int) == 0) = decide (a = 0) := eqNn a 0
end Go.Proofs.YtgipcnofonejcaaDoor.Ab

end

section
/- Chapter 35: the largest of the subset repairs, read only, both sides; DeletedFactCount. -/
open Go Go.Proofs Go.RowKit
namespace Go.Proofs.YtgipcnofonejcaaDoor.Ab
set_option linter.unusedSimpArgs false
set_option linter.unusedVariables false
set_option maxRecDepth 100000
def mxL (L : List (List Int)) : Nat := L.foldl (fun m x => max m x.length) 0
def bstL (L : List (List Int)) : List (List Int) := L.filter fun x => decide (x.length = mxL L)
theorem mx_snoc (L : List (List Int)) (x : List Int) : mxL (L ++ [x]) = max (mxL L) x.length := by
  unfold mxL; rw [List.foldl_append]; rfl
theorem mx_from : ∀ (L : List (List Int)) (a : Nat), a ≤ L.foldl (fun m x => max m x.length) a ∧ ∀ x, x ∈ L → x.length ≤ L.foldl (fun m x => max m x.length) a
  | [], a => ⟨Nat.le_refl _, fun x h => by cases h⟩
  | y :: L, a => by
    obtain ⟨h1, h2⟩ := mx_from L (max a y.length)
    rw [List.foldl_cons]
    refine ⟨by omega, fun x hx => ?_⟩
    rcases List.mem_cons.1 hx with rfl | hx
    · omega
    · exact h2 x hx
theorem mx_le {L : List (List Int)} {x : List Int} (h : x ∈ L) : x.length ≤ mxL L := (mx_from L 0).2 x h
theorem bst_more {L : List (List Int)} {x : List Int} (h : mxL L < x.length) : bstL (L ++ [x]) = [x] := by
  unfold bstL
  rw [mx_snoc, List.filter_append, Nat.max_eq_right (by omega)]
  have e : L.filter (fun y => decide (y.length = x.length)) = [] := by
    rw [List.filter_eq_nil_iff]
    intro y hy
    have := mx_le hy
    simp; omega
  rw [e]; simp
theorem bst_same {L : List (List Int)} {x : List Int} (h : mxL L = x.length) : bstL (L ++ [x]) = bstL L ++ [x] := by
  unfold bstL
  rw [mx_snoc, List.filter_append, Nat.max_eq_left (by omega)]
  congr 1
  simp [h]
theorem bst_less {L : List (List Int)} {x : List Int} (h : x.length < mxL L) : bstL (L ++ [x]) = bstL L := by
  unfold bstL
  rw [mx_snoc, List.filter_append, Nat.max_eq_left (by omega)]
  have e : [x].filter (fun y => decide (y.length = mxL L)) = [] := by
    rw [List.filter_eq_nil_iff]
    intro y hy
    rw [List.mem_singleton] at hy
    subst hy
    simp; omega
  rw [e, List.append_nil]
theorem bst_len (L : List (List Int)) : (bstL L).length ≤ L.length := List.length_filter_le _ _
theorem lenOf_a (x : List Int) : AC Tryd.prog 98 [.d (encIs x)] (.d (.v (.int .i64 (x.length : Int)))) := by
  refine AC.intro Tryd.func98 rfl (by decide) (by simp [S.res, S.ress]) (by simp [S.os, S.oss]) (by simp [S.wfs, S.wf, dbS]) (by simp [Tryd.f98]) ?_; rw [Tryd.ntmps98]
  repeat (first | refine aq ?_ | refine ap (by rfl : apartB 0 _ _ = true) ?_ | refine ak ?_ | refine ab ?_ | refine al ?_ | ((first | refine ar ?_ | refine ad ty_mix (by kernel_rfl) ?_ | refine ac ?_ | refine ae ?_ | with_reducible refine Later.mk ?_); simp only [evD, evL, iteL, St.said, St.asked, evStep, evOp, evP, St.init, St.app, srcStep, kill, setMany, loadS, fieldS, buildS, toks, Fin, upd_app, Array.isEmpty, Nat.reduceLT, Nat.reduceAdd, Nat.reduceMul, Nat.reduceLeDiff, Nat.reduceSub, Nat.reduceEqDiff, reduceCtorEq, reduceIte, ↓Opt.is, ↓Opt.no, ↓Asks.yes, ↓Asks.no, tyL, encL, asB]))
  refine Ab.ret ?_; simp only [evD, evL, iteL, St.said, St.asked, evStep, evOp, evP, St.init, St.app, srcStep, kill, setMany, loadS, fieldS, buildS, toks, Fin, upd_app, Array.isEmpty, Nat.reduceLT, Nat.reduceAdd, Nat.reduceMul, Nat.reduceLeDiff, Nat.reduceSub, Nat.reduceEqDiff, reduceCtorEq, reduceIte, ↓Opt.is, ↓Opt.no, ↓Asks.yes, ↓Asks.no, tyL, List.nodup_cons, encL, Tryd.f98]
theorem keepBest_a {L : List (List Int)} (hL : L.length ≤ 1048576) (hb : ∀ x, x ∈ L → x.length ≤ 64) : AC Tryd.prog 97 [.d (encIss L), .f (.func 98) [] []] (.d (encIss (bstL L))) := by
  have z3 : ∀ x : Nat, (0 ≤ (x : Int)) = True := fun x => eq_true (by omega)
  refine AC.intro Tryd.func97 rfl (by decide) (by simp [S.res, S.ress]) (by simp [S.os, S.oss]) (by simp [S.wfs, S.wf, dbS]) (by simp [Tryd.f97]) ?_; rw [Tryd.ntmps97]
  repeat (first | refine aq ?_ | refine ap (by rfl : apartB 0 _ _ = true) ?_ | refine ak ?_ | refine ab ?_ | refine al ?_ | ((first | refine ar ?_ | refine ad ty_mix (by kernel_rfl) ?_ | refine ac ?_ | refine ae ?_ | with_reducible refine Later.mk ?_); simp only [evD, evL, iteL, St.said, St.asked, evStep, evOp, evP, St.init, St.app, srcStep, kill, setMany, loadS, fieldS, buildS, toks, Fin, upd_app, Array.isEmpty, Nat.reduceLT, Nat.reduceAdd, Nat.reduceMul, Nat.reduceLeDiff, Nat.reduceSub, Nat.reduceEqDiff, reduceCtorEq, reduceIte, ↓Opt.is, ↓Opt.no, ↓Asks.yes, ↓Asks.no, tyL, encL, asB]))
  refine Ab.weaken (Le.adopt (t := 5) (id := 1) (n := 1) 46 (by omega) (by simp only [evD, evL, iteL, St.said, St.asked, evStep, evOp, evP, St.init, St.app, srcStep, kill, setMany, loadS, fieldS, buildS, toks, Fin, upd_app, Array.isEmpty, Nat.reduceLT, Nat.reduceAdd, Nat.reduceMul, Nat.reduceLeDiff, Nat.reduceSub, Nat.reduceEqDiff, reduceCtorEq, reduceIte, ↓Opt.is, ↓Opt.no, ↓Asks.yes, ↓Asks.no, tyL, encL]) (by simp only [evD, evL, iteL, St.said, St.asked, evStep, evOp, evP, St.init, St.app, srcStep, kill, setMany, loadS, fieldS, buildS, toks, Fin, upd_app, Array.isEmpty, Nat.reduceLT, Nat.reduceAdd, Nat.reduceMul, Nat.reduceLeDiff, Nat.reduceSub, Nat.reduceEqDiff, reduceCtorEq, reduceIte, ↓Opt.is, ↓Opt.no, ↓Asks.yes, ↓Asks.no, tyL, encL])) ?_
  simp only [evD, evL, iteL, St.said, St.asked, evStep, evOp, evP, St.init, St.app, srcStep, kill, setMany, loadS, fieldS, buildS, toks, Fin, upd_app, Array.isEmpty, Nat.reduceLT, Nat.reduceAdd, Nat.reduceMul, Nat.reduceLeDiff, Nat.reduceSub, Nat.reduceEqDiff, reduceCtorEq, reduceIte, ↓Opt.is, ↓Opt.no, ↓Asks.yes, ↓Asks.no, tyL, encL]
  refine Ab.loopI L.length (fun _ => True) (fun i => mkS 36 [(1, .f (.func 98) [] []), (5, .g 1 ((bstL (L.take i)).map encB)), (6, .d (.v (.int .i64 (mxL (L.take i) : Int)))), (10, .d (.sl (L.map encB))), (11, .d (.v (.int .i64 (L.length : Int)))), (12, .d (.v (.int .i64 (i : Int))))] [(1, .tip false 46 1 ((bstL (L.take i)).map encB))] 300) trivial ?_ ?_
  · ((first | refine Le.mk rfl ?_ ?_ | refine LeTo.mk rfl ?_ ?_) <;> simp only [evD, evL, iteL, St.said, St.asked, evStep, evOp, evP, St.init, St.app, srcStep, kill, setMany, loadS, fieldS, buildS, toks, Fin, upd_app, Array.isEmpty, Nat.reduceLT, Nat.reduceAdd, Nat.reduceMul, Nat.reduceLeDiff, Nat.reduceSub, Nat.reduceEqDiff, reduceCtorEq, reduceIte, ↓Opt.is, ↓Opt.no, ↓Asks.yes, ↓Asks.no, tyL, encL, leL, leD, ne_eq, List.take_zero, bstL, mxL, List.filter_nil, List.map_nil, List.foldl_nil])
  intro i hi _
  repeat (first | refine aq ?_ | refine ap (by rfl : apartB 0 _ _ = true) ?_ | refine ak ?_ | refine ab ?_ | refine al ?_ | ((first | refine ar ?_ | refine ad ty_mix (by kernel_rfl) ?_ | refine ac ?_ | refine ae ?_ | with_reducible refine Later.mk ?_); simp only [evD, evL, iteL, St.said, St.asked, evStep, evOp, evP, St.init, St.app, srcStep, kill, setMany, loadS, fieldS, buildS, toks, Fin, upd_app, Array.isEmpty, Nat.reduceLT, Nat.reduceAdd, Nat.reduceMul, Nat.reduceLeDiff, Nat.reduceSub, Nat.reduceEqDiff, reduceCtorEq, reduceIte, ↓Opt.is, ↓Opt.no, ↓Asks.yes, ↓Asks.no, tyL, encL, mkS, updl, asB]))
  refine ⟨fun h => ?_, fun h => ?_⟩
  · have h : i < L.length := by simpa using h
    have hw := wrapN h (by omega)
    have hc := lenOf_a L[i]
    have hgb := getB h
    have hts := List.take_succ_eq_append_getElem h
    have hbl : (bstL (L.take i)).length ≤ i := Nat.le_trans (bst_len _) (by rw [List.length_take]; omega)
    have hms := mx_snoc (L.take i) L[i]
    rw [← hts] at hms
    rcases Nat.lt_trichotomy (mxL (L.take i)) L[i].length with c | c | c
    · have hs := bst_more c
      rw [← hts] at hs
      rw [Nat.max_eq_right (by omega)] at hms
      have hg := eq_true (show (L[i].length : Int) > (mxL (L.take i) : Int) by omega)
      generalize bstL (L.take i) = U at *
      generalize mxL (L.take i) = m at *
      generalize L[i] = x at *
      repeat (first | refine aq ?_ | refine ap (by rfl : apartB 0 _ _ = true) ?_ | refine ak ?_ | refine ab ?_ | refine al ?_ | ((first | refine ar ?_ | refine ad ty_mix (by kernel_rfl) ?_ | refine ac ?_ | refine ae ?_ | with_reducible refine Later.mk ?_); simp only [evD, evL, iteL, St.said, St.asked, evStep, evOp, evP, St.init, St.app, srcStep, kill, setMany, loadS, fieldS, buildS, toks, Fin, upd_app, Array.isEmpty, Nat.reduceLT, Nat.reduceAdd, Nat.reduceMul, Nat.reduceLeDiff, Nat.reduceSub, Nat.reduceEqDiff, reduceCtorEq, reduceIte, ↓Opt.is, ↓Opt.no, ↓Asks.yes, ↓Asks.no, tyL, encL, hgb, z3, asB]))
      refine ⟨_, hc, ?_⟩; (repeat (first | refine ap (by rfl : apartB 0 _ _ = true) ?_ | refine ap (by simp [osL, D.flat]) ?_)); repeat (first | refine aq ?_ | refine ap (by rfl : apartB 0 _ _ = true) ?_ | refine ak ?_ | refine ab ?_ | refine al ?_ | ((first | refine ar ?_ | refine ad ty_mix (by kernel_rfl) ?_ | refine ac ?_ | refine ae ?_ | with_reducible refine Later.mk ?_); simp only [evD, evL, iteL, St.said, St.asked, evStep, evOp, evP, St.init, St.app, srcStep, kill, setMany, loadS, fieldS, buildS, toks, Fin, upd_app, Array.isEmpty, Nat.reduceLT, Nat.reduceAdd, Nat.reduceMul, Nat.reduceLeDiff, Nat.reduceSub, Nat.reduceEqDiff, reduceCtorEq, reduceIte, ↓Opt.is, ↓Opt.no, ↓Asks.yes, ↓Asks.no, tyL, encL, hg, hw, asB]))
      refine ⟨h, ?_⟩
      refine LeTo.renm (nx := 300) 508 1 [(1, .f (.func 98) [] []), (5, .g 508 ([x].map encB)), (6, .d (.v (.int .i64 (x.length : Int)))), (10, .d (.sl (L.map encB))), (11, .d (.v (.int .i64 (L.length : Int)))), (12, .d (.v (.int .i64 ((i + 1 : Nat) : Int))))] [(508, .tip false 46 1 ([x].map encB))] rfl rfl (by decide) rfl (by rw [hs, hms]; rfl) (by rw [hs]; rfl) ?_
      ((first | refine Le.mk rfl ?_ ?_ | refine LeTo.mk rfl ?_ ?_) <;> simp only [evD, evL, iteL, St.said, St.asked, evStep, evOp, evP, St.init, St.app, srcStep, kill, setMany, loadS, fieldS, buildS, toks, Fin, upd_app, Array.isEmpty, Nat.reduceLT, Nat.reduceAdd, Nat.reduceMul, Nat.reduceLeDiff, Nat.reduceSub, Nat.reduceEqDiff, reduceCtorEq, reduceIte, ↓Opt.is, ↓Opt.no, ↓Asks.yes, ↓Asks.no, tyL, encL, leL, leD, ne_eq, List.map_cons, List.map_nil, encB])
    · have hs := bst_same c
      rw [← hts] at hs
      rw [Nat.max_eq_left (by omega)] at hms
      have hg := eq_false (show ¬ (L[i].length : Int) > (mxL (L.take i) : Int) by omega)
      have he : ((L[i].length : Int) == (mxL (L.take i) : Int)) = true := by rw [c]; exact beq_self_eq_true _
      generalize bstL (L.take i) = U at *
      generalize mxL (L.take i) = m at *
      generalize L[i] = x at *
      repeat (first | refine aq ?_ | refine ap (by rfl : apartB 0 _ _ = true) ?_ | refine ak ?_ | refine ab ?_ | refine al ?_ | ((first | refine ar ?_ | refine ad ty_mix (by kernel_rfl) ?_ | refine ac ?_ | refine ae ?_ | with_reducible refine Later.mk ?_); simp only [evD, evL, iteL, St.said, St.asked, evStep, evOp, evP, St.init, St.app, srcStep, kill, setMany, loadS, fieldS, buildS, toks, Fin, upd_app, Array.isEmpty, Nat.reduceLT, Nat.reduceAdd, Nat.reduceMul, Nat.reduceLeDiff, Nat.reduceSub, Nat.reduceEqDiff, reduceCtorEq, reduceIte, ↓Opt.is, ↓Opt.no, ↓Asks.yes, ↓Asks.no, tyL, encL, hgb, z3, asB]))
      refine ⟨_, hc, ?_⟩; (repeat (first | refine ap (by rfl : apartB 0 _ _ = true) ?_ | refine ap (by simp [osL, D.flat]) ?_)); repeat (first | refine aq ?_ | refine ap (by rfl : apartB 0 _ _ = true) ?_ | refine ak ?_ | refine ab ?_ | refine al ?_ | ((first | refine ar ?_ | refine ad ty_mix (by kernel_rfl) ?_ | refine ac ?_ | refine ae ?_ | with_reducible refine Later.mk ?_); simp only [evD, evL, iteL, St.said, St.asked, evStep, evOp, evP, St.init, St.app, srcStep, kill, setMany, loadS, fieldS, buildS, toks, Fin, upd_app, Array.isEmpty, Nat.reduceLT, Nat.reduceAdd, Nat.reduceMul, Nat.reduceLeDiff, Nat.reduceSub, Nat.reduceEqDiff, reduceCtorEq, reduceIte, ↓Opt.is, ↓Opt.no, ↓Asks.yes, ↓Asks.no, tyL, encL, hg, he, asB]))
      refine ⟨fun e he => by subst he; rfl, false, (fun h => by cases h), Later.mk ?_⟩
      simp only [evD, evL, iteL, St.said, St.asked, evStep, evOp, evP, St.init, St.app, srcStep, kill, setMany, loadS, fieldS, buildS, toks, Fin, upd_app, Array.isEmpty, Nat.reduceLT, Nat.reduceAdd, Nat.reduceMul, Nat.reduceLeDiff, Nat.reduceSub, Nat.reduceEqDiff, reduceCtorEq, reduceIte, ↓Opt.is, ↓Opt.no, ↓Asks.yes, ↓Asks.no, tyL, encL]
      refine ⟨by simp only [maxLen]; omega, by omega, ?_⟩
      repeat (first | refine aq ?_ | refine ap (by rfl : apartB 0 _ _ = true) ?_ | refine ak ?_ | refine ab ?_ | refine al ?_ | ((first | refine ar ?_ | refine ad ty_mix (by kernel_rfl) ?_ | refine ac ?_ | refine ae ?_ | with_reducible refine Later.mk ?_); simp only [evD, evL, iteL, St.said, St.asked, evStep, evOp, evP, St.init, St.app, srcStep, kill, setMany, loadS, fieldS, buildS, toks, Fin, upd_app, Array.isEmpty, Nat.reduceLT, Nat.reduceAdd, Nat.reduceMul, Nat.reduceLeDiff, Nat.reduceSub, Nat.reduceEqDiff, reduceCtorEq, reduceIte, ↓Opt.is, ↓Opt.no, ↓Asks.yes, ↓Asks.no, tyL, encL, hw, asB]))
      refine ⟨h, ?_⟩
      ((first | refine Le.mk rfl ?_ ?_ | refine LeTo.mk rfl ?_ ?_) <;> simp only [evD, evL, iteL, St.said, St.asked, evStep, evOp, evP, St.init, St.app, srcStep, kill, setMany, loadS, fieldS, buildS, toks, Fin, upd_app, Array.isEmpty, Nat.reduceLT, Nat.reduceAdd, Nat.reduceMul, Nat.reduceLeDiff, Nat.reduceSub, Nat.reduceEqDiff, reduceCtorEq, reduceIte, ↓Opt.is, ↓Opt.no, ↓Asks.yes, ↓Asks.no, tyL, encL, leL, leD, ne_eq, hs, hms, List.map_append, List.map_cons, List.map_nil, encB])
    · have hs := bst_less c
      rw [← hts] at hs
      rw [Nat.max_eq_left (by omega)] at hms
      have hg := eq_false (show ¬ (L[i].length : Int) > (mxL (L.take i) : Int) by omega)
      have he : ((L[i].length : Int) == (mxL (L.take i) : Int)) = false := beq_eq_false_iff_ne.2 (by omega)
      generalize bstL (L.take i) = U at *
      generalize mxL (L.take i) = m at *
      generalize L[i] = x at *
      repeat (first | refine aq ?_ | refine ap (by rfl : apartB 0 _ _ = true) ?_ | refine ak ?_ | refine ab ?_ | refine al ?_ | ((first | refine ar ?_ | refine ad ty_mix (by kernel_rfl) ?_ | refine ac ?_ | refine ae ?_ | with_reducible refine Later.mk ?_); simp only [evD, evL, iteL, St.said, St.asked, evStep, evOp, evP, St.init, St.app, srcStep, kill, setMany, loadS, fieldS, buildS, toks, Fin, upd_app, Array.isEmpty, Nat.reduceLT, Nat.reduceAdd, Nat.reduceMul, Nat.reduceLeDiff, Nat.reduceSub, Nat.reduceEqDiff, reduceCtorEq, reduceIte, ↓Opt.is, ↓Opt.no, ↓Asks.yes, ↓Asks.no, tyL, encL, hgb, z3, asB]))
      refine ⟨_, hc, ?_⟩; (repeat (first | refine ap (by rfl : apartB 0 _ _ = true) ?_ | refine ap (by simp [osL, D.flat]) ?_)); repeat (first | refine aq ?_ | refine ap (by rfl : apartB 0 _ _ = true) ?_ | refine ak ?_ | refine ab ?_ | refine al ?_ | ((first | refine ar ?_ | refine ad ty_mix (by kernel_rfl) ?_ | refine ac ?_ | refine ae ?_ | with_reducible refine Later.mk ?_); simp only [evD, evL, iteL, St.said, St.asked, evStep, evOp, evP, St.init, St.app, srcStep, kill, setMany, loadS, fieldS, buildS, toks, Fin, upd_app, Array.isEmpty, Nat.reduceLT, Nat.reduceAdd, Nat.reduceMul, Nat.reduceLeDiff, Nat.reduceSub, Nat.reduceEqDiff, reduceCtorEq, reduceIte, ↓Opt.is, ↓Opt.no, ↓Asks.yes, ↓Asks.no, tyL, encL, hg, he, hw, asB]))
      refine ⟨h, ?_⟩
      ((first | refine Le.mk rfl ?_ ?_ | refine LeTo.mk rfl ?_ ?_) <;> simp only [evD, evL, iteL, St.said, St.asked, evStep, evOp, evP, St.init, St.app, srcStep, kill, setMany, loadS, fieldS, buildS, toks, Fin, upd_app, Array.isEmpty, Nat.reduceLT, Nat.reduceAdd, Nat.reduceMul, Nat.reduceLeDiff, Nat.reduceSub, Nat.reduceEqDiff, reduceCtorEq, reduceIte, ↓Opt.is, ↓Opt.no, ↓Asks.yes, ↓Asks.no, tyL, encL, leL, leD, ne_eq, hs, hms])
  · have h : i = L.length := by have := of_decide_eq_false h; omega
    subst h
    rw [List.take_length]
    repeat (first | refine aq ?_ | refine ap (by rfl : apartB 0 _ _ = true) ?_ | refine ak ?_ | refine ab ?_ | refine al ?_ | ((first | refine ar ?_ | refine ad ty_mix (by kernel_rfl) ?_ | refine ac ?_ | refine ae ?_ | with_reducible refine Later.mk ?_); simp only [evD, evL, iteL, St.said, St.asked, evStep, evOp, evP, St.init, St.app, srcStep, kill, setMany, loadS, fieldS, buildS, toks, Fin, upd_app, Array.isEmpty, Nat.reduceLT, Nat.reduceAdd, Nat.reduceMul, Nat.reduceLeDiff, Nat.reduceSub, Nat.reduceEqDiff, reduceCtorEq, reduceIte, ↓Opt.is, ↓Opt.no, ↓Asks.yes, ↓Asks.no, tyL, encL, asB]))
    refine Ab.ret ?_; simp only [evD, evL, iteL, St.said, St.asked, evStep, evOp, evP, St.init, St.app, srcStep, kill, setMany, loadS, fieldS, buildS, toks, Fin, upd_app, Array.isEmpty, Nat.reduceLT, Nat.reduceAdd, Nat.reduceMul, Nat.reduceLeDiff, Nat.reduceSub, Nat.reduceEqDiff, reduceCtorEq, reduceIte, ↓Opt.is, ↓Opt.no, ↓Asks.yes, ↓Asks.no, tyL, List.nodup_cons, encL, Tryd.f97]
def crd (d : Dbs) (L : List Dcn) : List (List Int) := bstL (subR d L)
def delF (d : Dbs) (L : List Dcn) : Int := if (crd d L).length = 0 then 0 else (d.facts.length : Int) - (((crd d L).getD 0 []).length : Int)
theorem implCardinality_r {d : Dbs} (g : eDbs.good d) {L : List Dcn} (gL : (eSlice eDcn).good L) (hL : L.length ≤ 1048576) : AC Tryd.prog 51 [dbS d, .d (encCs L)] (.d (encIss (crd d L))) := by
  have hc1 := implSubsetRepairs_a g gL hL
  have hc2 := keepBest_a (L := subR d L) (by have := subR_len d L; omega) (fun x hx => (subR_mem hx).1)
  unfold crd
  unfold dbS at hc1 ⊢
  refine AC.intro Tryd.func51 rfl (by decide) (by simp [S.res, S.ress]) (by simp [S.os, S.oss]) (by simp [S.wfs, S.wf, dbS]) (by simp [Tryd.f51]) ?_; rw [Tryd.ntmps51]
  repeat (first | refine aq ?_ | refine ap (by rfl : apartB 0 _ _ = true) ?_ | refine ak ?_ | refine ab ?_ | refine al ?_ | ((first | refine ar ?_ | refine ad ty_mix (by kernel_rfl) ?_ | refine ac ?_ | refine ae ?_ | with_reducible refine Later.mk ?_); simp only [evD, evL, iteL, St.said, St.asked, evStep, evOp, evP, St.init, St.app, srcStep, kill, setMany, loadS, fieldS, buildS, toks, Fin, upd_app, Array.isEmpty, Nat.reduceLT, Nat.reduceAdd, Nat.reduceMul, Nat.reduceLeDiff, Nat.reduceSub, Nat.reduceEqDiff, reduceCtorEq, reduceIte, ↓Opt.is, ↓Opt.no, ↓Asks.yes, ↓Asks.no, tyL, encL, asB]))
  refine ⟨_, hc1, ?_⟩; (repeat (first | refine ap (by rfl : apartB 0 _ _ = true) ?_ | refine ap (by simp [osL, D.flat]) ?_)); repeat (first | refine aq ?_ | refine ap (by rfl : apartB 0 _ _ = true) ?_ | refine ak ?_ | refine ab ?_ | refine al ?_ | ((first | refine ar ?_ | refine ad ty_mix (by kernel_rfl) ?_ | refine ac ?_ | refine ae ?_ | with_reducible refine Later.mk ?_); simp only [evD, evL, iteL, St.said, St.asked, evStep, evOp, evP, St.init, St.app, srcStep, kill, setMany, loadS, fieldS, buildS, toks, Fin, upd_app, Array.isEmpty, Nat.reduceLT, Nat.reduceAdd, Nat.reduceMul, Nat.reduceLeDiff, Nat.reduceSub, Nat.reduceEqDiff, reduceCtorEq, reduceIte, ↓Opt.is, ↓Opt.no, ↓Asks.yes, ↓Asks.no, tyL, encL, asB]))
  refine ⟨_, hc2, ?_⟩; (repeat (first | refine ap (by rfl : apartB 0 _ _ = true) ?_ | refine ap (by simp [osL, D.flat]) ?_)); repeat (first | refine aq ?_ | refine ap (by rfl : apartB 0 _ _ = true) ?_ | refine ak ?_ | refine ab ?_ | refine al ?_ | ((first | refine ar ?_ | refine ad ty_mix (by kernel_rfl) ?_ | refine ac ?_ | refine ae ?_ | with_reducible refine Later.mk ?_); simp only [evD, evL, iteL, St.said, St.asked, evStep, evOp, evP, St.init, St.app, srcStep, kill, setMany, loadS, fieldS, buildS, toks, Fin, upd_app, Array.isEmpty, Nat.reduceLT, Nat.reduceAdd, Nat.reduceMul, Nat.reduceLeDiff, Nat.reduceSub, Nat.reduceEqDiff, reduceCtorEq, reduceIte, ↓Opt.is, ↓Opt.no, ↓Asks.yes, ↓Asks.no, tyL, encL, asB]))
  refine Ab.ret ?_; simp only [evD, evL, iteL, St.said, St.asked, evStep, evOp, evP, St.init, St.app, srcStep, kill, setMany, loadS, fieldS, buildS, toks, Fin, upd_app, Array.isEmpty, Nat.reduceLT, Nat.reduceAdd, Nat.reduceMul, Nat.reduceLeDiff, Nat.reduceSub, Nat.reduceEqDiff, reduceCtorEq, reduceIte, ↓Opt.is, ↓Opt.no, ↓Asks.yes, ↓Asks.no, tyL, List.nodup_cons, encL, Tryd.f51]
theorem crd_facts (d : Dbs) (L : List Dcn) (gd : d.facts.length ≤ maxLen) : (crd d L).length ≤ 16384 ∧ ((crd d L).getD 0 []).length ≤ 64 := by
  have h1 := Nat.le_trans (bst_len (subR d L)) (subR_len d L)
  refine ⟨h1, ?_⟩
  rw [List.getD_eq_getElem?_getD]
  cases hx : (crd d L)[0]? with
  | none => exact Nat.zero_le _
  | some y => exact (subR_mem (List.mem_filter.1 (List.mem_of_getElem? hx)).1).1
theorem implDeletedFactCount_a {d : Dbs} (g : eDbs.good d) {L : List Dcn} (gL : (eSlice eDcn).good L) (hL : L.length ≤ 1048576) : AC Tryd.prog 21 [dbS d, .d (encCs L)] (.d (.v (.int .i64 (delF d L)))) := by
  have hc1 := implCardinality_r g gL hL
  have hfl : d.facts.length ≤ maxLen := g.2.1
  obtain ⟨h1, h2⟩ := crd_facts d L hfl
  unfold maxLen at hfl
  have hz := eq0N (crd d L).length
  unfold delF
  generalize crd d L = C at *
  unfold dbS at hc1 ⊢
  by_cases h0 : C.length = 0
  · rw [if_pos h0]
    rw [decide_eq_true h0] at hz
    refine AC.intro Tryd.func21 rfl (by decide) (by simp [S.res, S.ress]) (by simp [S.os, S.oss]) (by simp [S.wfs, S.wf, dbS]) (by simp [Tryd.f21]) ?_; rw [Tryd.ntmps21]
    repeat (first | refine aq ?_ | refine ap (by rfl : apartB 0 _ _ = true) ?_ | refine ak ?_ | refine ab ?_ | refine al ?_ | ((first | refine ar ?_ | refine ad ty_mix (by kernel_rfl) ?_ | refine ac ?_ | refine ae ?_ | with_reducible refine Later.mk ?_); simp only [evD, evL, iteL, St.said, St.asked, evStep, evOp, evP, St.init, St.app, srcStep, kill, setMany, loadS, fieldS, buildS, toks, Fin, upd_app, Array.isEmpty, Nat.reduceLT, Nat.reduceAdd, Nat.reduceMul, Nat.reduceLeDiff, Nat.reduceSub, Nat.reduceEqDiff, reduceCtorEq, reduceIte, ↓Opt.is, ↓Opt.no, ↓Asks.yes, ↓Asks.no, tyL, encL, asB]))
    refine ⟨_, hc1, ?_⟩; (repeat (first | refine ap (by rfl : apartB 0 _ _ = true) ?_ | refine ap (by simp [osL, D.flat]) ?_)); repeat (first | refine aq ?_ | refine ap (by rfl : apartB 0 _ _ = true) ?_ | refine ak ?_ | refine ab ?_ | refine al ?_ | ((first | refine ar ?_ | refine ad ty_mix (by kernel_rfl) ?_ | refine ac ?_ | refine ae ?_ | with_reducible refine Later.mk ?_); simp only [evD, evL, iteL, St.said, St.asked, evStep, evOp, evP, St.init, St.app, srcStep, kill, setMany, loadS, fieldS, buildS, toks, Fin, upd_app, Array.isEmpty, Nat.reduceLT, Nat.reduceAdd, Nat.reduceMul, Nat.reduceLeDiff, Nat.reduceSub, Nat.reduceEqDiff, reduceCtorEq, reduceIte, ↓Opt.is, ↓Opt.no, ↓Asks.yes, ↓Asks.no, tyL, encL, hz, asB]))
    refine Ab.ret ?_; simp only [evD, evL, iteL, St.said, St.asked, evStep, evOp, evP, St.init, St.app, srcStep, kill, setMany, loadS, fieldS, buildS, toks, Fin, upd_app, Array.isEmpty, Nat.reduceLT, Nat.reduceAdd, Nat.reduceMul, Nat.reduceLeDiff, Nat.reduceSub, Nat.reduceEqDiff, reduceCtorEq, reduceIte, ↓Opt.is, ↓Opt.no, ↓Asks.yes, ↓Asks.no, tyL, List.nodup_cons, encL, Tryd.f21]
  · rw [if_neg h0]
    rw [decide_eq_false h0] at hz
    have hg := getB (l := C) (i := 0) (by omega)
    have e0 : C[0]'(by omega) = C.getD 0 [] := by rw [List.getD_eq_getElem?_getD, List.getElem?_eq_getElem (by omega)]; rfl
    rw [e0] at hg
    have hw : IntKind.i64.wrap ((d.facts.length : Int) - ((C.getD 0 []).length : Int)) = (d.facts.length : Int) - ((C.getD 0 []).length : Int) := by rw [IntKind.wrap_i64]; omega
    generalize C.getD 0 [] = x at *
    refine AC.intro Tryd.func21 rfl (by decide) (by simp [S.res, S.ress]) (by simp [S.os, S.oss]) (by simp [S.wfs, S.wf, dbS]) (by simp [Tryd.f21]) ?_; rw [Tryd.ntmps21]
    repeat (first | refine aq ?_ | refine ap (by rfl : apartB 0 _ _ = true) ?_ | refine ak ?_ | refine ab ?_ | refine al ?_ | ((first | refine ar ?_ | refine ad ty_mix (by kernel_rfl) ?_ | refine ac ?_ | refine ae ?_ | with_reducible refine Later.mk ?_); simp only [evD, evL, iteL, St.said, St.asked, evStep, evOp, evP, St.init, St.app, srcStep, kill, setMany, loadS, fieldS, buildS, toks, Fin, upd_app, Array.isEmpty, Nat.reduceLT, Nat.reduceAdd, Nat.reduceMul, Nat.reduceLeDiff, Nat.reduceSub, Nat.reduceEqDiff, reduceCtorEq, reduceIte, ↓Opt.is, ↓Opt.no, ↓Asks.yes, ↓Asks.no, tyL, encL, asB]))
    refine ⟨_, hc1, ?_⟩; (repeat (first | refine ap (by rfl : apartB 0 _ _ = true) ?_ | refine ap (by simp [osL, D.flat]) ?_)); repeat (first | refine aq ?_ | refine ap (by rfl : apartB 0 _ _ = true) ?_ | refine ak ?_ | refine ab ?_ | refine al ?_ | ((first | refine ar ?_ | refine ad ty_mix (by kernel_rfl) ?_ | refine ac ?_ | refine ae ?_ | with_reducible refine Later.mk ?_); simp only [evD, evL, iteL, St.said, St.asked, evStep, evOp, evP, St.init, St.app, srcStep, kill, setMany, loadS, fieldS, buildS, toks, Fin, upd_app, Array.isEmpty, Nat.reduceLT, Nat.reduceAdd, Nat.reduceMul, Nat.reduceLeDiff, Nat.reduceSub, Nat.reduceEqDiff, reduceCtorEq, reduceIte, ↓Opt.is, ↓Opt.no, ↓Asks.yes, ↓Asks.no, tyL, encL, hz, hg, hw, Int.le_refl, Int.reduceToNat, asB]))
    refine Ab.ret ?_; simp only [evD, evL, iteL, St.said, St.asked, evStep, evOp, evP, St.init, St.app, srcStep, kill, setMany, loadS, fieldS, buildS, toks, Fin, upd_app, Array.isEmpty, Nat.reduceLT, Nat.reduceAdd, Nat.reduceMul, Nat.reduceLeDiff, Nat.reduceSub, Nat.reduceEqDiff, reduceCtorEq, reduceIte, ↓Opt.is, ↓Opt.no, ↓Asks.yes, ↓Asks.no, tyL, List.nodup_cons, encL, Tryd.f21]
end Go.Proofs.YtgipcnofonejcaaDoor.Ab
end

section
/- Chapter 35: the largest repairs and DeletedFactCount, in the model. -/
open Go Go.Proofs Go.RowKit
namespace Go.Proofs.YtgipcnofonejcaaDoor.Ab
set_option linter.unusedSimpArgs false
set_option linter.unusedVariables false
set_option maxRecDepth 100000
theorem maxB (a b : Nat) : (if (a : Int) < (b : Int) then (b : Int) else (a : Int)) = ((max a b : Nat) : Int) := by split <;> omega
theorem specCardinality_r {d : Dbs} (g : eDbs.good d) {L : List Dcn} (gL : (eSlice eDcn).good L) (hL : L.length ≤ 1048576) : AC Tryd.prog 50 [dbS d, .d (encCs L)] (.d (encIss (crd d L))) := by
  have hc1 := specSubsetRepairs_a g gL hL
  have hsl := subR_len d L
  have hsb : ∀ x, x ∈ subR d L → x.length ≤ 64 := fun x hx => (subR_mem hx).1
  have z3 : ∀ x : Nat, (0 ≤ (x : Int)) = True := fun x => eq_true (by omega)
  unfold crd
  generalize subR d L = R at *
  unfold dbS at hc1 ⊢
  refine AC.intro Tryd.func50 rfl (by decide) (by simp [S.res, S.ress]) (by simp [S.os, S.oss]) (by simp [S.wfs, S.wf, dbS]) (by simp [Tryd.f50]) ?_; rw [Tryd.ntmps50]
  repeat (first | refine aq ?_ | refine ap (by rfl : apartB 0 _ _ = true) ?_ | refine ak ?_ | refine ab ?_ | refine al ?_ | ((first | refine ar ?_ | refine ad ty_mix (by kernel_rfl) ?_ | refine ac ?_ | refine ae ?_ | with_reducible refine Later.mk ?_); simp only [evD, evL, iteL, St.said, St.asked, evStep, evOp, evP, St.init, St.app, srcStep, kill, setMany, loadS, fieldS, buildS, toks, Fin, upd_app, Array.isEmpty, Nat.reduceLT, Nat.reduceAdd, Nat.reduceMul, Nat.reduceLeDiff, Nat.reduceSub, Nat.reduceEqDiff, reduceCtorEq, reduceIte, ↓Opt.is, ↓Opt.no, ↓Asks.yes, ↓Asks.no, tyL, encL, asB]))
  refine ⟨_, hc1, ?_⟩; (repeat (first | refine ap (by rfl : apartB 0 _ _ = true) ?_ | refine ap (by simp [osL, D.flat]) ?_)); repeat (first | refine aq ?_ | refine ap (by rfl : apartB 0 _ _ = true) ?_ | refine ak ?_ | refine ab ?_ | refine al ?_ | ((first | refine ar ?_ | refine ad ty_mix (by kernel_rfl) ?_ | refine ac ?_ | refine ae ?_ | with_reducible refine Later.mk ?_); simp only [evD, evL, iteL, St.said, St.asked, evStep, evOp, evP, St.init, St.app, srcStep, kill, setMany, loadS, fieldS, buildS, toks, Fin, upd_app, Array.isEmpty, Nat.reduceLT, Nat.reduceAdd, Nat.reduceMul, Nat.reduceLeDiff, Nat.reduceSub, Nat.reduceEqDiff, reduceCtorEq, reduceIte, ↓Opt.is, ↓Opt.no, ↓Asks.yes, ↓Asks.no, tyL, encL, asB]))
  refine Ab.loopI R.length (fun _ => True) (fun i => mkS 48 [(5, .g 32 []), (6, .d (.sl (R.map encB))), (7, .d (.v (.int .i64 (mxL (R.take i) : Int)))), (8, .d (.v (.int .i64 (i : Int))))] [(32, .tip true 46 1 [])] 400) trivial ?_ ?_
  · ((first | refine Le.mk rfl ?_ ?_ | refine LeTo.mk rfl ?_ ?_) <;> simp only [evD, evL, iteL, St.said, St.asked, evStep, evOp, evP, St.init, St.app, srcStep, kill, setMany, loadS, fieldS, buildS, toks, Fin, upd_app, Array.isEmpty, Nat.reduceLT, Nat.reduceAdd, Nat.reduceMul, Nat.reduceLeDiff, Nat.reduceSub, Nat.reduceEqDiff, reduceCtorEq, reduceIte, ↓Opt.is, ↓Opt.no, ↓Asks.yes, ↓Asks.no, tyL, encL, leL, leD, ne_eq, List.take_zero, mxL, List.foldl_nil])
  intro i hi _
  repeat (first | refine aq ?_ | refine ap (by rfl : apartB 0 _ _ = true) ?_ | refine ak ?_ | refine ab ?_ | refine al ?_ | ((first | refine ar ?_ | refine ad ty_mix (by kernel_rfl) ?_ | refine ac ?_ | refine ae ?_ | with_reducible refine Later.mk ?_); simp only [evD, evL, iteL, St.said, St.asked, evStep, evOp, evP, St.init, St.app, srcStep, kill, setMany, loadS, fieldS, buildS, toks, Fin, upd_app, Array.isEmpty, Nat.reduceLT, Nat.reduceAdd, Nat.reduceMul, Nat.reduceLeDiff, Nat.reduceSub, Nat.reduceEqDiff, reduceCtorEq, reduceIte, ↓Opt.is, ↓Opt.no, ↓Asks.yes, ↓Asks.no, tyL, encL, mkS, updl, asB]))
  refine ⟨fun h => ?_, fun h => ?_⟩
  · have h : i < R.length := by simpa using h
    have hw := wrapN h (by omega)
    have hgb := getB h
    have hms := mx_snoc (R.take i) R[i]
    rw [← List.take_succ_eq_append_getElem h] at hms
    have hmx := maxB (mxL (R.take i)) R[i].length
    rw [← hms] at hmx
    generalize mxL (R.take i) = m at *
    generalize mxL (R.take (i + 1)) = m2 at *
    generalize R[i] = x at *
    repeat (first | refine aq ?_ | refine ap (by rfl : apartB 0 _ _ = true) ?_ | refine ak ?_ | refine ab ?_ | refine al ?_ | ((first | refine ar ?_ | refine ad ty_mix (by kernel_rfl) ?_ | refine ac ?_ | refine ae ?_ | with_reducible refine Later.mk ?_); simp only [evD, evL, iteL, St.said, St.asked, evStep, evOp, evP, St.init, St.app, srcStep, kill, setMany, loadS, fieldS, buildS, toks, Fin, upd_app, Array.isEmpty, Nat.reduceLT, Nat.reduceAdd, Nat.reduceMul, Nat.reduceLeDiff, Nat.reduceSub, Nat.reduceEqDiff, reduceCtorEq, reduceIte, ↓Opt.is, ↓Opt.no, ↓Asks.yes, ↓Asks.no, tyL, encL, hgb, z3, hmx, hw, asB]))
    refine ⟨h, ?_⟩
    ((first | refine Le.mk rfl ?_ ?_ | refine LeTo.mk rfl ?_ ?_) <;> simp only [evD, evL, iteL, St.said, St.asked, evStep, evOp, evP, St.init, St.app, srcStep, kill, setMany, loadS, fieldS, buildS, toks, Fin, upd_app, Array.isEmpty, Nat.reduceLT, Nat.reduceAdd, Nat.reduceMul, Nat.reduceLeDiff, Nat.reduceSub, Nat.reduceEqDiff, reduceCtorEq, reduceIte, ↓Opt.is, ↓Opt.no, ↓Asks.yes, ↓Asks.no, tyL, encL, leL, leD, ne_eq])
  · have h : i = R.length := by have := of_decide_eq_false h; omega
    subst h
    rw [List.take_length]
    repeat (first | refine aq ?_ | refine ap (by rfl : apartB 0 _ _ = true) ?_ | refine ak ?_ | refine ab ?_ | refine al ?_ | ((first | refine ar ?_ | refine ad ty_mix (by kernel_rfl) ?_ | refine ac ?_ | refine ae ?_ | with_reducible refine Later.mk ?_); simp only [evD, evL, iteL, St.said, St.asked, evStep, evOp, evP, St.init, St.app, srcStep, kill, setMany, loadS, fieldS, buildS, toks, Fin, upd_app, Array.isEmpty, Nat.reduceLT, Nat.reduceAdd, Nat.reduceMul, Nat.reduceLeDiff, Nat.reduceSub, Nat.reduceEqDiff, reduceCtorEq, reduceIte, ↓Opt.is, ↓Opt.no, ↓Asks.yes, ↓Asks.no, tyL, encL, asB]))
    refine Ab.loopI R.length (fun _ => True) (fun i => mkS 48 [(5, .g 32 (((R.take i).filter fun x => decide (x.length = mxL R)).map encB)), (6, .d (.sl (R.map encB))), (7, .d (.v (.int .i64 (mxL R : Int)))), (9, .d (.v (.int .i64 (i : Int))))] [(32, .tip false 46 1 (((R.take i).filter fun x => decide (x.length = mxL R)).map encB))] 800) trivial ?_ ?_
    · ((first | refine Le.mk rfl ?_ ?_ | refine LeTo.mk rfl ?_ ?_) <;> simp only [evD, evL, iteL, St.said, St.asked, evStep, evOp, evP, St.init, St.app, srcStep, kill, setMany, loadS, fieldS, buildS, toks, Fin, upd_app, Array.isEmpty, Nat.reduceLT, Nat.reduceAdd, Nat.reduceMul, Nat.reduceLeDiff, Nat.reduceSub, Nat.reduceEqDiff, reduceCtorEq, reduceIte, ↓Opt.is, ↓Opt.no, ↓Asks.yes, ↓Asks.no, tyL, encL, leL, leD, ne_eq, List.take_zero, List.filter_nil, List.map_nil])
    intro i hi _
    repeat (first | refine aq ?_ | refine ap (by rfl : apartB 0 _ _ = true) ?_ | refine ak ?_ | refine ab ?_ | refine al ?_ | ((first | refine ar ?_ | refine ad ty_mix (by kernel_rfl) ?_ | refine ac ?_ | refine ae ?_ | with_reducible refine Later.mk ?_); simp only [evD, evL, iteL, St.said, St.asked, evStep, evOp, evP, St.init, St.app, srcStep, kill, setMany, loadS, fieldS, buildS, toks, Fin, upd_app, Array.isEmpty, Nat.reduceLT, Nat.reduceAdd, Nat.reduceMul, Nat.reduceLeDiff, Nat.reduceSub, Nat.reduceEqDiff, reduceCtorEq, reduceIte, ↓Opt.is, ↓Opt.no, ↓Asks.yes, ↓Asks.no, tyL, encL, mkS, updl, asB]))
    refine ⟨fun h => ?_, fun h => ?_⟩
    · have h : i < R.length := by simpa using h
      have hw := wrapN h (by omega)
      have hgb := getB h
      have hq := eqNn R[i].length (mxL R)
      have hll : ((R.take i).filter fun x => decide (x.length = mxL R)).length ≤ i := Nat.le_trans (List.length_filter_le _ _) (by rw [List.length_take]; omega)
      have hs : (R.take (i + 1)).filter (fun x => decide (x.length = mxL R)) = (R.take i).filter (fun x => decide (x.length = mxL R)) ++ (if R[i].length = mxL R then [R[i]] else []) := by
        rw [List.take_succ_eq_append_getElem h, List.filter_append, List.filter_cons, List.filter_nil]
        by_cases c : R[i].length = mxL R <;> simp [c]
      generalize (R.take i).filter (fun x => decide (x.length = mxL R)) = U at *
      generalize (R.take (i + 1)).filter (fun x => decide (x.length = mxL R)) = U2 at *
      generalize R[i] = x at *
      by_cases c : x.length = mxL R
      · rw [if_pos c] at hs
        rw [decide_eq_true c] at hq
        repeat (first | refine aq ?_ | refine ap (by rfl : apartB 0 _ _ = true) ?_ | refine ak ?_ | refine ab ?_ | refine al ?_ | ((first | refine ar ?_ | refine ad ty_mix (by kernel_rfl) ?_ | refine ac ?_ | refine ae ?_ | with_reducible refine Later.mk ?_); simp only [evD, evL, iteL, St.said, St.asked, evStep, evOp, evP, St.init, St.app, srcStep, kill, setMany, loadS, fieldS, buildS, toks, Fin, upd_app, Array.isEmpty, Nat.reduceLT, Nat.reduceAdd, Nat.reduceMul, Nat.reduceLeDiff, Nat.reduceSub, Nat.reduceEqDiff, reduceCtorEq, reduceIte, ↓Opt.is, ↓Opt.no, ↓Asks.yes, ↓Asks.no, tyL, encL, hgb, z3, hq, asB]))
        refine ⟨fun e he => by subst he; rfl, false, (fun h => by cases h), Later.mk ?_⟩
        simp only [evD, evL, iteL, St.said, St.asked, evStep, evOp, evP, St.init, St.app, srcStep, kill, setMany, loadS, fieldS, buildS, toks, Fin, upd_app, Array.isEmpty, Nat.reduceLT, Nat.reduceAdd, Nat.reduceMul, Nat.reduceLeDiff, Nat.reduceSub, Nat.reduceEqDiff, reduceCtorEq, reduceIte, ↓Opt.is, ↓Opt.no, ↓Asks.yes, ↓Asks.no, tyL, encL]
        refine ⟨by simp only [maxLen]; omega, by omega, ?_⟩
        repeat (first | refine aq ?_ | refine ap (by rfl : apartB 0 _ _ = true) ?_ | refine ak ?_ | refine ab ?_ | refine al ?_ | ((first | refine ar ?_ | refine ad ty_mix (by kernel_rfl) ?_ | refine ac ?_ | refine ae ?_ | with_reducible refine Later.mk ?_); simp only [evD, evL, iteL, St.said, St.asked, evStep, evOp, evP, St.init, St.app, srcStep, kill, setMany, loadS, fieldS, buildS, toks, Fin, upd_app, Array.isEmpty, Nat.reduceLT, Nat.reduceAdd, Nat.reduceMul, Nat.reduceLeDiff, Nat.reduceSub, Nat.reduceEqDiff, reduceCtorEq, reduceIte, ↓Opt.is, ↓Opt.no, ↓Asks.yes, ↓Asks.no, tyL, encL, hw, asB]))
        refine ⟨h, ?_⟩
        ((first | refine Le.mk rfl ?_ ?_ | refine LeTo.mk rfl ?_ ?_) <;> simp only [evD, evL, iteL, St.said, St.asked, evStep, evOp, evP, St.init, St.app, srcStep, kill, setMany, loadS, fieldS, buildS, toks, Fin, upd_app, Array.isEmpty, Nat.reduceLT, Nat.reduceAdd, Nat.reduceMul, Nat.reduceLeDiff, Nat.reduceSub, Nat.reduceEqDiff, reduceCtorEq, reduceIte, ↓Opt.is, ↓Opt.no, ↓Asks.yes, ↓Asks.no, tyL, encL, leL, leD, ne_eq, hs, List.map_append, List.map_cons, List.map_nil, encB])
      · rw [if_neg c, List.append_nil] at hs
        rw [decide_eq_false c] at hq
        repeat (first | refine aq ?_ | refine ap (by rfl : apartB 0 _ _ = true) ?_ | refine ak ?_ | refine ab ?_ | refine al ?_ | ((first | refine ar ?_ | refine ad ty_mix (by kernel_rfl) ?_ | refine ac ?_ | refine ae ?_ | with_reducible refine Later.mk ?_); simp only [evD, evL, iteL, St.said, St.asked, evStep, evOp, evP, St.init, St.app, srcStep, kill, setMany, loadS, fieldS, buildS, toks, Fin, upd_app, Array.isEmpty, Nat.reduceLT, Nat.reduceAdd, Nat.reduceMul, Nat.reduceLeDiff, Nat.reduceSub, Nat.reduceEqDiff, reduceCtorEq, reduceIte, ↓Opt.is, ↓Opt.no, ↓Asks.yes, ↓Asks.no, tyL, encL, hgb, z3, hq, hw, asB]))
        refine ⟨h, ?_⟩
        ((first | refine Le.mk rfl ?_ ?_ | refine LeTo.mk rfl ?_ ?_) <;> simp only [evD, evL, iteL, St.said, St.asked, evStep, evOp, evP, St.init, St.app, srcStep, kill, setMany, loadS, fieldS, buildS, toks, Fin, upd_app, Array.isEmpty, Nat.reduceLT, Nat.reduceAdd, Nat.reduceMul, Nat.reduceLeDiff, Nat.reduceSub, Nat.reduceEqDiff, reduceCtorEq, reduceIte, ↓Opt.is, ↓Opt.no, ↓Asks.yes, ↓Asks.no, tyL, encL, leL, leD, ne_eq, hs])
    · have h : i = R.length := by have := of_decide_eq_false h; omega
      subst h
      rw [List.take_length]
      repeat (first | refine aq ?_ | refine ap (by rfl : apartB 0 _ _ = true) ?_ | refine ak ?_ | refine ab ?_ | refine al ?_ | ((first | refine ar ?_ | refine ad ty_mix (by kernel_rfl) ?_ | refine ac ?_ | refine ae ?_ | with_reducible refine Later.mk ?_); simp only [evD, evL, iteL, St.said, St.asked, evStep, evOp, evP, St.init, St.app, srcStep, kill, setMany, loadS, fieldS, buildS, toks, Fin, upd_app, Array.isEmpty, Nat.reduceLT, Nat.reduceAdd, Nat.reduceMul, Nat.reduceLeDiff, Nat.reduceSub, Nat.reduceEqDiff, reduceCtorEq, reduceIte, ↓Opt.is, ↓Opt.no, ↓Asks.yes, ↓Asks.no, tyL, encL, asB]))
      refine Ab.ret ?_; simp only [evD, evL, iteL, St.said, St.asked, evStep, evOp, evP, St.init, St.app, srcStep, kill, setMany, loadS, fieldS, buildS, toks, Fin, upd_app, Array.isEmpty, Nat.reduceLT, Nat.reduceAdd, Nat.reduceMul, Nat.reduceLeDiff, Nat.reduceSub, Nat.reduceEqDiff, reduceCtorEq, reduceIte, ↓Opt.is, ↓Opt.no, ↓Asks.yes, ↓Asks.no, tyL, List.nodup_cons, encL, Tryd.f50, bstL]
theorem specDeletedFactCount_a {d : Dbs} (g : eDbs.good d) {L : List Dcn} (gL : (eSlice eDcn).good L) (hL : L.length ≤ 1048576) : AC Tryd.prog 20 [dbS d, .d (encCs L)] (.d (.v (.int .i64 (delF d L)))) := by
  have hc1 := specCardinality_r g gL hL
  have hfl : d.facts.length ≤ maxLen := g.2.1
  obtain ⟨h1, h2⟩ := crd_facts d L hfl
  unfold maxLen at hfl
  have hz := eq0N (crd d L).length
  unfold delF
  generalize crd d L = C at *
  unfold dbS at hc1 ⊢
  by_cases h0 : C.length = 0
  · rw [if_pos h0]
    rw [decide_eq_true h0] at hz
    refine AC.intro Tryd.func20 rfl (by decide) (by simp [S.res, S.ress]) (by simp [S.os, S.oss]) (by simp [S.wfs, S.wf, dbS]) (by simp [Tryd.f20]) ?_; rw [Tryd.ntmps20]
    repeat (first | refine aq ?_ | refine ap (by rfl : apartB 0 _ _ = true) ?_ | refine ak ?_ | refine ab ?_ | refine al ?_ | ((first | refine ar ?_ | refine ad ty_mix (by kernel_rfl) ?_ | refine ac ?_ | refine ae ?_ | with_reducible refine Later.mk ?_); simp only [evD, evL, iteL, St.said, St.asked, evStep, evOp, evP, St.init, St.app, srcStep, kill, setMany, loadS, fieldS, buildS, toks, Fin, upd_app, Array.isEmpty, Nat.reduceLT, Nat.reduceAdd, Nat.reduceMul, Nat.reduceLeDiff, Nat.reduceSub, Nat.reduceEqDiff, reduceCtorEq, reduceIte, ↓Opt.is, ↓Opt.no, ↓Asks.yes, ↓Asks.no, tyL, encL, asB]))
    refine ⟨_, hc1, ?_⟩; (repeat (first | refine ap (by rfl : apartB 0 _ _ = true) ?_ | refine ap (by simp [osL, D.flat]) ?_)); repeat (first | refine aq ?_ | refine ap (by rfl : apartB 0 _ _ = true) ?_ | refine ak ?_ | refine ab ?_ | refine al ?_ | ((first | refine ar ?_ | refine ad ty_mix (by kernel_rfl) ?_ | refine ac ?_ | refine ae ?_ | with_reducible refine Later.mk ?_); simp only [evD, evL, iteL, St.said, St.asked, evStep, evOp, evP, St.init, St.app, srcStep, kill, setMany, loadS, fieldS, buildS, toks, Fin, upd_app, Array.isEmpty, Nat.reduceLT, Nat.reduceAdd, Nat.reduceMul, Nat.reduceLeDiff, Nat.reduceSub, Nat.reduceEqDiff, reduceCtorEq, reduceIte, ↓Opt.is, ↓Opt.no, ↓Asks.yes, ↓Asks.no, tyL, encL, hz, asB]))
    refine Ab.ret ?_; simp only [evD, evL, iteL, St.said, St.asked, evStep, evOp, evP, St.init, St.app, srcStep, kill, setMany, loadS, fieldS, buildS, toks, Fin, upd_app, Array.isEmpty, Nat.reduceLT, Nat.reduceAdd, Nat.reduceMul, Nat.reduceLeDiff, Nat.reduceSub, Nat.reduceEqDiff, reduceCtorEq, reduceIte, ↓Opt.is, ↓Opt.no, ↓Asks.yes, ↓Asks.no, tyL, List.nodup_cons, encL, Tryd.f20]
  · rw [if_neg h0]
    rw [decide_eq_false h0] at hz
    have hg := getB (l := C) (i := 0) (by omega)
    have e0 : C[0]'(by omega) = C.getD 0 [] := by rw [List.getD_eq_getElem?_getD, List.getElem?_eq_getElem (by omega)]; rfl
    rw [e0] at hg
    have hw : IntKind.i64.wrap ((d.facts.length : Int) - ((C.getD 0 []).length : Int)) = (d.facts.length : Int) - ((C.getD 0 []).length : Int) := by rw [IntKind.wrap_i64]; omega
    generalize C.getD 0 [] = x at *
    refine AC.intro Tryd.func20 rfl (by decide) (by simp [S.res, S.ress]) (by simp [S.os, S.oss]) (by simp [S.wfs, S.wf, dbS]) (by simp [Tryd.f20]) ?_; rw [Tryd.ntmps20]
    repeat (first | refine aq ?_ | refine ap (by rfl : apartB 0 _ _ = true) ?_ | refine ak ?_ | refine ab ?_ | refine al ?_ | ((first | refine ar ?_ | refine ad ty_mix (by kernel_rfl) ?_ | refine ac ?_ | refine ae ?_ | with_reducible refine Later.mk ?_); simp only [evD, evL, iteL, St.said, St.asked, evStep, evOp, evP, St.init, St.app, srcStep, kill, setMany, loadS, fieldS, buildS, toks, Fin, upd_app, Array.isEmpty, Nat.reduceLT, Nat.reduceAdd, Nat.reduceMul, Nat.reduceLeDiff, Nat.reduceSub, Nat.reduceEqDiff, reduceCtorEq, reduceIte, ↓Opt.is, ↓Opt.no, ↓Asks.yes, ↓Asks.no, tyL, encL, asB]))
    refine ⟨_, hc1, ?_⟩; (repeat (first | refine ap (by rfl : apartB 0 _ _ = true) ?_ | refine ap (by simp [osL, D.flat]) ?_)); repeat (first | refine aq ?_ | refine ap (by rfl : apartB 0 _ _ = true) ?_ | refine ak ?_ | refine ab ?_ | refine al ?_ | ((first | refine ar ?_ | refine ad ty_mix (by kernel_rfl) ?_ | refine ac ?_ | refine ae ?_ | with_reducible refine Later.mk ?_); simp only [evD, evL, iteL, St.said, St.asked, evStep, evOp, evP, St.init, St.app, srcStep, kill, setMany, loadS, fieldS, buildS, toks, Fin, upd_app, Array.isEmpty, Nat.reduceLT, Nat.reduceAdd, Nat.reduceMul, Nat.reduceLeDiff, Nat.reduceSub, Nat.reduceEqDiff, reduceCtorEq, reduceIte, ↓Opt.is, ↓Opt.no, ↓Asks.yes, ↓Asks.no, tyL, encL, hz, hg, hw, Int.le_refl, Int.reduceToNat, asB]))
    refine Ab.ret ?_; simp only [evD, evL, iteL, St.said, St.asked, evStep, evOp, evP, St.init, St.app, srcStep, kill, setMany, loadS, fieldS, buildS, toks, Fin, upd_app, Array.isEmpty, Nat.reduceLT, Nat.reduceAdd, Nat.reduceMul, Nat.reduceLeDiff, Nat.reduceSub, Nat.reduceEqDiff, reduceCtorEq, reduceIte, ↓Opt.is, ↓Opt.no, ↓Asks.yes, ↓Asks.no, tyL, List.nodup_cons, encL, Tryd.f20]
end Go.Proofs.YtgipcnofonejcaaDoor.Ab
end

section
/- DeletedFactCount: the contracts of the layer for the law. Written by gen/backc.py. -/
open Go Go.Proofs Go.RowKit
namespace Go.Proofs.YtgipcnofonejcaaDoor.Ab
set_option linter.unusedSimpArgs false
set_option linter.unusedVariables false
set_option maxRecDepth 100000
theorem _root_.Go.Proofs.YtgipcnofonejcaaDoor.implDeletedFactCount_c {x0 : Dbs} {a0_0 : Option Addr} {cap0_0 : Nat} {a1_0 : Option Addr} {cap1_0 : Nat} {a1 : Option Addr} {cap1 : Nat} {l1 : List Dcn} {w : World} (hz0 : sizeDatabase x0 ≤ 1048576) (hz1 : l1.length ≤ 1048576) (h0 : At cDbs w x0 [.slice a0_0 x0.rels.length cap0_0, .slice a1_0 x0.facts.length cap1_0]) (h1 : At (cSlice cDcn) w l1 [.slice a1 l1.length cap1]) (hg : Glob w := by exact trivial) :
    Calls Tryd.prog 21 #[.agg #[.slice a0_0 x0.rels.length cap0_0, .slice a1_0 x0.facts.length cap1_0], .slice a1 l1.length cap1] w fun e w' => e = .returned (.int .i64 (Ab.delF x0 l1)) ∧ Below w.heap.size w w' := by
  refine Calls.mono (((implDeletedFactCount_a (eDbs.gd h0) ((eSlice eDcn).gd h1) hz1)).call (cs := [_, _]) ?_) ?_
  · simp only [RdSs]
    exact ⟨_, _, rfl, (eDbs.argA h0), ⟨_, _, rfl, ((eSlice eDcn).arg1 (x := l1) rfl h1), rfl⟩⟩
  · rintro e w' ⟨c, rfl, q1, q2⟩
    exact ⟨by rw [q1.d], q2⟩
theorem _root_.Go.Proofs.YtgipcnofonejcaaDoor.specDeletedFactCount_c {x0 : Dbs} {a0_0 : Option Addr} {cap0_0 : Nat} {a1_0 : Option Addr} {cap1_0 : Nat} {a1 : Option Addr} {cap1 : Nat} {l1 : List Dcn} {w : World} (hz0 : sizeDatabase x0 ≤ 1048576) (hz1 : l1.length ≤ 1048576) (h0 : At cDbs w x0 [.slice a0_0 x0.rels.length cap0_0, .slice a1_0 x0.facts.length cap1_0]) (h1 : At (cSlice cDcn) w l1 [.slice a1 l1.length cap1]) (hg : Glob w := by exact trivial) :
    Calls Tryd.prog 20 #[.agg #[.slice a0_0 x0.rels.length cap0_0, .slice a1_0 x0.facts.length cap1_0], .slice a1 l1.length cap1] w fun e w' => e = .returned (.int .i64 (Ab.delF x0 l1)) ∧ Below w.heap.size w w' := by
  refine Calls.mono (((specDeletedFactCount_a (eDbs.gd h0) ((eSlice eDcn).gd h1) hz1)).call (cs := [_, _]) ?_) ?_
  · simp only [RdSs]
    exact ⟨_, _, rfl, (eDbs.argA h0), ⟨_, _, rfl, ((eSlice eDcn).arg1 (x := l1) rfl h1), rfl⟩⟩
  · rintro e w' ⟨c, rfl, q1, q2⟩
    exact ⟨by rw [q1.d], q2⟩
end Go.Proofs.YtgipcnofonejcaaDoor.Ab
end
