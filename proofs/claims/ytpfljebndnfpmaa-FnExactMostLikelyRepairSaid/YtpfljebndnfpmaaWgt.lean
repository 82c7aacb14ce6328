/- Chapter 37: weights. -/
import Derived.Test.YtpfljebndnfpmaaStat
import Derived.Test.YtpfljebndnfpmaaAbGen
open Go Go.Proofs Go.RowKit
namespace Go.Proofs.Ytpfljebndnfpmaa.Ab
set_option linter.unusedSimpArgs false
set_option linter.unusedVariables false
set_option maxRecDepth 100000
def addW (a x : Int) : Int := IntKind.i64.wrap (a + x)
/-- Weights for a database. -/
def validW (d : Dbs) (l : List Int) : Bool := validDb d && (decide (l.length = d.facts.length) && l.all fun x => inB x 1 9)
theorem outW_a (x : Int) : AC Try.prog 117 [.d (.v (.int .i64 x))] (.d (.v (.bool (!inB x 1 9)))) := by
  refine AC.intro Try.func117 rfl (by decide) (by simp [S.res, S.ress]) (by simp [S.os, S.oss]) (by simp [S.wfs, S.wf, dbS]) (by simp [Try.f117]) ?_; rw [Try.ntmps117]
  unfold inB
  by_cases h1 : x < 1
  · have h2 : ¬ 1 ≤ x := by omega
    repeat (first | refine aq ?_ | refine ap (by rfl : apartB 0 _ _ = true) ?_ | refine ak ?_ | refine ab ?_ | refine al ?_ | ((first | refine ar ?_ | refine ad ty_mix (by kernel_rfl) ?_ | refine ac ?_ | refine ae ?_ | with_reducible refine Later.mk ?_); simp only [evD, evL, iteL, St.said, St.asked, evStep, evOp, evP, St.init, St.app, srcStep, kill, setMany, loadS, fieldS, buildS, toks, Fin, upd_app, Array.isEmpty, Nat.reduceLT, Nat.reduceAdd, Nat.reduceMul, Nat.reduceLeDiff, Nat.reduceSub, Nat.reduceEqDiff, reduceCtorEq, reduceIte, ↓Opt.is, ↓Opt.no, ↓Asks.yes, ↓Asks.no, tyL, encL, h1, asB]))
    refine Ab.ret ?_; simp only [evD, evL, iteL, St.said, St.asked, evStep, evOp, evP, St.init, St.app, srcStep, kill, setMany, loadS, fieldS, buildS, toks, Fin, upd_app, Array.isEmpty, Nat.reduceLT, Nat.reduceAdd, Nat.reduceMul, Nat.reduceLeDiff, Nat.reduceSub, Nat.reduceEqDiff, reduceCtorEq, reduceIte, ↓Opt.is, ↓Opt.no, ↓Asks.yes, ↓Asks.no, tyL, List.nodup_cons, encL, Try.f117, h2]
  · have h2 : 1 ≤ x := by omega
    have e : decide (x > 9) = !decide (x ≤ 9) := by by_cases h : x ≤ 9 <;> simp [h] <;> omega
    repeat (first | refine aq ?_ | refine ap (by rfl : apartB 0 _ _ = true) ?_ | refine ak ?_ | refine ab ?_ | refine al ?_ | ((first | refine ar ?_ | refine ad ty_mix (by kernel_rfl) ?_ | refine ac ?_ | refine ae ?_ | with_reducible refine Later.mk ?_); simp only [evD, evL, iteL, St.said, St.asked, evStep, evOp, evP, St.init, St.app, srcStep, kill, setMany, loadS, fieldS, buildS, toks, Fin, upd_app, Array.isEmpty, Nat.reduceLT, Nat.reduceAdd, Nat.reduceMul, Nat.reduceLeDiff, Nat.reduceSub, Nat.reduceEqDiff, reduceCtorEq, reduceIte, ↓Opt.is, ↓Opt.no, ↓Asks.yes, ↓Asks.no, tyL, encL, h1, asB]))
    refine Ab.ret ?_; simp only [evD, evL, iteL, St.said, St.asked, evStep, evOp, evP, St.init, St.app, srcStep, kill, setMany, loadS, fieldS, buildS, toks, Fin, upd_app, Array.isEmpty, Nat.reduceLT, Nat.reduceAdd, Nat.reduceMul, Nat.reduceLeDiff, Nat.reduceSub, Nat.reduceEqDiff, reduceCtorEq, reduceIte, ↓Opt.is, ↓Opt.no, ↓Asks.yes, ↓Asks.no, tyL, List.nodup_cons, encL, Try.f117, h2, e]
theorem implAreValidWeights_a {d : Dbs} (g : eDbs.good d) (l : List Int) (hl : l.length ≤ 1048576) : AC Try.prog 64 [dbS d, .d (encIs l)] (.d (.v (.bool (validW d l)))) := by
  have hv := implIsValidDatabase_a g
  have hc := containsFunc_int caps_nil (fun x => !inB x 1 9) l hl (fun x _ => outW_a x)
  have e : (!l.any fun x => !inB x 1 9) = l.all fun x => inB x 1 9 := by rw [List.not_any_eq_all_not]; simp
  unfold validW
  refine AC.intro Try.func64 rfl (by decide) (by simp [S.res, S.ress]) (by simp [S.os, S.oss]) (by simp [S.wfs, S.wf, dbS]) (by simp [Try.f64]) ?_; rw [Try.ntmps64]
  repeat (first | refine aq ?_ | refine ap (by rfl : apartB 0 _ _ = true) ?_ | refine ak ?_ | refine ab ?_ | refine al ?_ | ((first | refine ar ?_ | refine ad ty_mix (by kernel_rfl) ?_ | refine ac ?_ | refine ae ?_ | with_reducible refine Later.mk ?_); simp only [evD, evL, iteL, St.said, St.asked, evStep, evOp, evP, St.init, St.app, srcStep, kill, setMany, loadS, fieldS, buildS, toks, Fin, upd_app, Array.isEmpty, Nat.reduceLT, Nat.reduceAdd, Nat.reduceMul, Nat.reduceLeDiff, Nat.reduceSub, Nat.reduceEqDiff, reduceCtorEq, reduceIte, ↓Opt.is, ↓Opt.no, ↓Asks.yes, ↓Asks.no, tyL, encL, asB]))
  rcases Bool.eq_false_or_eq_true (validDb d) with hd | hd <;> rw [hd] at hv ⊢
  · by_cases hn : l.length = d.facts.length
    · refine ⟨_, hv, ?_⟩; (repeat (first | refine ap (by rfl : apartB 0 _ _ = true) ?_ | refine ap (by simp [osL, D.flat]) ?_)); repeat (first | refine aq ?_ | refine ap (by rfl : apartB 0 _ _ = true) ?_ | refine ak ?_ | refine ab ?_ | refine al ?_ | ((first | refine ar ?_ | refine ad ty_mix (by kernel_rfl) ?_ | refine ac ?_ | refine ae ?_ | with_reducible refine Later.mk ?_); simp only [evD, evL, iteL, St.said, St.asked, evStep, evOp, evP, St.init, St.app, srcStep, kill, setMany, loadS, fieldS, buildS, toks, Fin, upd_app, Array.isEmpty, Nat.reduceLT, Nat.reduceAdd, Nat.reduceMul, Nat.reduceLeDiff, Nat.reduceSub, Nat.reduceEqDiff, reduceCtorEq, reduceIte, ↓Opt.is, ↓Opt.no, ↓Asks.yes, ↓Asks.no, tyL, encL, eqN, hn, asB]))
      refine ⟨_, hc, ?_⟩; (repeat (first | refine ap (by rfl : apartB 0 _ _ = true) ?_ | refine ap (by simp [osL, D.flat]) ?_)); repeat (first | refine aq ?_ | refine ap (by rfl : apartB 0 _ _ = true) ?_ | refine ak ?_ | refine ab ?_ | refine al ?_ | ((first | refine ar ?_ | refine ad ty_mix (by kernel_rfl) ?_ | refine ac ?_ | refine ae ?_ | with_reducible refine Later.mk ?_); simp only [evD, evL, iteL, St.said, St.asked, evStep, evOp, evP, St.init, St.app, srcStep, kill, setMany, loadS, fieldS, buildS, toks, Fin, upd_app, Array.isEmpty, Nat.reduceLT, Nat.reduceAdd, Nat.reduceMul, Nat.reduceLeDiff, Nat.reduceSub, Nat.reduceEqDiff, reduceCtorEq, reduceIte, ↓Opt.is, ↓Opt.no, ↓Asks.yes, ↓Asks.no, tyL, encL, e, asB]))
      refine Ab.ret ?_; simp only [evD, evL, iteL, St.said, St.asked, evStep, evOp, evP, St.init, St.app, srcStep, kill, setMany, loadS, fieldS, buildS, toks, Fin, upd_app, Array.isEmpty, Nat.reduceLT, Nat.reduceAdd, Nat.reduceMul, Nat.reduceLeDiff, Nat.reduceSub, Nat.reduceEqDiff, reduceCtorEq, reduceIte, ↓Opt.is, ↓Opt.no, ↓Asks.yes, ↓Asks.no, tyL, List.nodup_cons, encL, Try.f64, hn]
    · refine ⟨_, hv, ?_⟩; (repeat (first | refine ap (by rfl : apartB 0 _ _ = true) ?_ | refine ap (by simp [osL, D.flat]) ?_)); repeat (first | refine aq ?_ | refine ap (by rfl : apartB 0 _ _ = true) ?_ | refine ak ?_ | refine ab ?_ | refine al ?_ | ((first | refine ar ?_ | refine ad ty_mix (by kernel_rfl) ?_ | refine ac ?_ | refine ae ?_ | with_reducible refine Later.mk ?_); simp only [evD, evL, iteL, St.said, St.asked, evStep, evOp, evP, St.init, St.app, srcStep, kill, setMany, loadS, fieldS, buildS, toks, Fin, upd_app, Array.isEmpty, Nat.reduceLT, Nat.reduceAdd, Nat.reduceMul, Nat.reduceLeDiff, Nat.reduceSub, Nat.reduceEqDiff, reduceCtorEq, reduceIte, ↓Opt.is, ↓Opt.no, ↓Asks.yes, ↓Asks.no, tyL, encL, eqN, hn, asB]))
      refine Ab.ret ?_; simp only [evD, evL, iteL, St.said, St.asked, evStep, evOp, evP, St.init, St.app, srcStep, kill, setMany, loadS, fieldS, buildS, toks, Fin, upd_app, Array.isEmpty, Nat.reduceLT, Nat.reduceAdd, Nat.reduceMul, Nat.reduceLeDiff, Nat.reduceSub, Nat.reduceEqDiff, reduceCtorEq, reduceIte, ↓Opt.is, ↓Opt.no, ↓Asks.yes, ↓Asks.no, tyL, List.nodup_cons, encL, Try.f64, hn]
  · refine ⟨_, hv, ?_⟩; (repeat (first | refine ap (by rfl : apartB 0 _ _ = true) ?_ | refine ap (by simp [osL, D.flat]) ?_)); repeat (first | refine aq ?_ | refine ap (by rfl : apartB 0 _ _ = true) ?_ | refine ak ?_ | refine ab ?_ | refine al ?_ | ((first | refine ar ?_ | refine ad ty_mix (by kernel_rfl) ?_ | refine ac ?_ | refine ae ?_ | with_reducible refine Later.mk ?_); simp only [evD, evL, iteL, St.said, St.asked, evStep, evOp, evP, St.init, St.app, srcStep, kill, setMany, loadS, fieldS, buildS, toks, Fin, upd_app, Array.isEmpty, Nat.reduceLT, Nat.reduceAdd, Nat.reduceMul, Nat.reduceLeDiff, Nat.reduceSub, Nat.reduceEqDiff, reduceCtorEq, reduceIte, ↓Opt.is, ↓Opt.no, ↓Asks.yes, ↓Asks.no, tyL, encL, asB]))
    refine Ab.ret ?_; simp only [evD, evL, iteL, St.said, St.asked, evStep, evOp, evP, St.init, St.app, srcStep, kill, setMany, loadS, fieldS, buildS, toks, Fin, upd_app, Array.isEmpty, Nat.reduceLT, Nat.reduceAdd, Nat.reduceMul, Nat.reduceLeDiff, Nat.reduceSub, Nat.reduceEqDiff, reduceCtorEq, reduceIte, ↓Opt.is, ↓Opt.no, ↓Asks.yes, ↓Asks.no, tyL, List.nodup_cons, encL, Try.f64]
theorem in_a (n lo hi : Int) : AC Try.prog 95 [.d (.v (.int .i64 n)), .d (.v (.int .i64 lo)), .d (.v (.int .i64 hi))] (.d (.v (.bool (inB n lo hi)))) := by
  refine AC.intro Try.func95 rfl (by decide) (by simp [S.res, S.ress]) (by simp [S.os, S.oss]) (by simp [S.wfs, S.wf, dbS]) (by simp [Try.f95]) ?_; rw [Try.ntmps95]
  unfold inB
  by_cases h1 : n ≥ lo
  · have h2 : lo ≤ n := h1
    repeat (first | refine aq ?_ | refine ap (by rfl : apartB 0 _ _ = true) ?_ | refine ak ?_ | refine ab ?_ | refine al ?_ | ((first | refine ar ?_ | refine ad ty_mix (by kernel_rfl) ?_ | refine ac ?_ | refine ae ?_ | with_reducible refine Later.mk ?_); simp only [evD, evL, iteL, St.said, St.asked, evStep, evOp, evP, St.init, St.app, srcStep, kill, setMany, loadS, fieldS, buildS, toks, Fin, upd_app, Array.isEmpty, Nat.reduceLT, Nat.reduceAdd, Nat.reduceMul, Nat.reduceLeDiff, Nat.reduceSub, Nat.reduceEqDiff, reduceCtorEq, reduceIte, ↓Opt.is, ↓Opt.no, ↓Asks.yes, ↓Asks.no, tyL, encL, h1, asB]))
    refine Ab.ret ?_; simp only [evD, evL, iteL, St.said, St.asked, evStep, evOp, evP, St.init, St.app, srcStep, kill, setMany, loadS, fieldS, buildS, toks, Fin, upd_app, Array.isEmpty, Nat.reduceLT, Nat.reduceAdd, Nat.reduceMul, Nat.reduceLeDiff, Nat.reduceSub, Nat.reduceEqDiff, reduceCtorEq, reduceIte, ↓Opt.is, ↓Opt.no, ↓Asks.yes, ↓Asks.no, tyL, List.nodup_cons, encL, Try.f95, h1, h2]
  · have h2 : ¬ lo ≤ n := h1
    repeat (first | refine aq ?_ | refine ap (by rfl : apartB 0 _ _ = true) ?_ | refine ak ?_ | refine ab ?_ | refine al ?_ | ((first | refine ar ?_ | refine ad ty_mix (by kernel_rfl) ?_ | refine ac ?_ | refine ae ?_ | with_reducible refine Later.mk ?_); simp only [evD, evL, iteL, St.said, St.asked, evStep, evOp, evP, St.init, St.app, srcStep, kill, setMany, loadS, fieldS, buildS, toks, Fin, upd_app, Array.isEmpty, Nat.reduceLT, Nat.reduceAdd, Nat.reduceMul, Nat.reduceLeDiff, Nat.reduceSub, Nat.reduceEqDiff, reduceCtorEq, reduceIte, ↓Opt.is, ↓Opt.no, ↓Asks.yes, ↓Asks.no, tyL, encL, h1, asB]))
    refine Ab.ret ?_; simp only [evD, evL, iteL, St.said, St.asked, evStep, evOp, evP, St.init, St.app, srcStep, kill, setMany, loadS, fieldS, buildS, toks, Fin, upd_app, Array.isEmpty, Nat.reduceLT, Nat.reduceAdd, Nat.reduceMul, Nat.reduceLeDiff, Nat.reduceSub, Nat.reduceEqDiff, reduceCtorEq, reduceIte, ↓Opt.is, ↓Opt.no, ↓Asks.yes, ↓Asks.no, tyL, List.nodup_cons, encL, Try.f95, h1, h2]
theorem specAreValidWeights_a {d : Dbs} (g : eDbs.good d) (l : List Int) (hl : l.length ≤ 1048576) : AC Try.prog 61 [dbS d, .d (encIs l)] (.d (.v (.bool (validW d l)))) := by
  have hv := specIsValidDatabase_a g
  unfold validW
  refine AC.intro Try.func61 rfl (by decide) (by simp [S.res, S.ress]) (by simp [S.os, S.oss]) (by simp [S.wfs, S.wf, dbS]) (by simp [Try.f61]) ?_; rw [Try.ntmps61]
  repeat (first | refine aq ?_ | refine ap (by rfl : apartB 0 _ _ = true) ?_ | refine ak ?_ | refine ab ?_ | refine al ?_ | ((first | refine ar ?_ | refine ad ty_mix (by kernel_rfl) ?_ | refine ac ?_ | refine ae ?_ | with_reducible refine Later.mk ?_); simp only [evD, evL, iteL, St.said, St.asked, evStep, evOp, evP, St.init, St.app, srcStep, kill, setMany, loadS, fieldS, buildS, toks, Fin, upd_app, Array.isEmpty, Nat.reduceLT, Nat.reduceAdd, Nat.reduceMul, Nat.reduceLeDiff, Nat.reduceSub, Nat.reduceEqDiff, reduceCtorEq, reduceIte, ↓Opt.is, ↓Opt.no, ↓Asks.yes, ↓Asks.no, tyL, encL, asB]))
  refine Ab.loopI l.length (fun i => ∀ j (hj : j < l.length), j < i → inB l[j] 1 9 = true) (fun i => mkS 28 [(1, .d (.sl (List.map encI l))), (2, .p 0 0), (5, .d (.v (.int .i64 (i : Int))))] [(0, .box [.d (.sl (List.map encR d.rels)), .d (.sl (List.map encF d.facts))])] 48) (fun j _ h => by omega) ?_ ?_
  · ((first | refine Le.mk rfl ?_ ?_ | refine LeTo.mk rfl ?_ ?_) <;> simp only [evD, evL, iteL, St.said, St.asked, evStep, evOp, evP, St.init, St.app, srcStep, kill, setMany, loadS, fieldS, buildS, toks, Fin, upd_app, Array.isEmpty, Nat.reduceLT, Nat.reduceAdd, Nat.reduceMul, Nat.reduceLeDiff, Nat.reduceSub, Nat.reduceEqDiff, reduceCtorEq, reduceIte, ↓Opt.is, ↓Opt.no, ↓Asks.yes, ↓Asks.no, tyL, encL, leL, leD, ne_eq])
  intro i hi hI
  repeat (first | refine aq ?_ | refine ap (by rfl : apartB 0 _ _ = true) ?_ | refine ak ?_ | refine ab ?_ | refine al ?_ | ((first | refine ar ?_ | refine ad ty_mix (by kernel_rfl) ?_ | refine ac ?_ | refine ae ?_ | with_reducible refine Later.mk ?_); simp only [evD, evL, iteL, St.said, St.asked, evStep, evOp, evP, St.init, St.app, srcStep, kill, setMany, loadS, fieldS, buildS, toks, Fin, upd_app, Array.isEmpty, Nat.reduceLT, Nat.reduceAdd, Nat.reduceMul, Nat.reduceLeDiff, Nat.reduceSub, Nat.reduceEqDiff, reduceCtorEq, reduceIte, ↓Opt.is, ↓Opt.no, ↓Asks.yes, ↓Asks.no, tyL, encL, mkS, updl, asB]))
  refine ⟨fun h => ?_, fun h => ?_⟩
  · have h : i < l.length := by simpa using h
    have hw := wrapN h (by omega)
    repeat (first | refine aq ?_ | refine ap (by rfl : apartB 0 _ _ = true) ?_ | refine ak ?_ | refine ab ?_ | refine al ?_ | ((first | refine ar ?_ | refine ad ty_mix (by kernel_rfl) ?_ | refine ac ?_ | refine ae ?_ | with_reducible refine Later.mk ?_); simp only [evD, evL, iteL, St.said, St.asked, evStep, evOp, evP, St.init, St.app, srcStep, kill, setMany, loadS, fieldS, buildS, toks, Fin, upd_app, Array.isEmpty, Nat.reduceLT, Nat.reduceAdd, Nat.reduceMul, Nat.reduceLeDiff, Nat.reduceSub, Nat.reduceEqDiff, reduceCtorEq, reduceIte, ↓Opt.is, ↓Opt.no, ↓Asks.yes, ↓Asks.no, tyL, encL, getI h, asB]))
    refine ⟨_, in_a l[i] 1 9, ?_⟩; (repeat (first | refine ap (by rfl : apartB 0 _ _ = true) ?_ | refine ap (by simp [osL, D.flat]) ?_)); repeat (first | refine aq ?_ | refine ap (by rfl : apartB 0 _ _ = true) ?_ | refine ak ?_ | refine ab ?_ | refine al ?_ | ((first | refine ar ?_ | refine ad ty_mix (by kernel_rfl) ?_ | refine ac ?_ | refine ae ?_ | with_reducible refine Later.mk ?_); simp only [evD, evL, iteL, St.said, St.asked, evStep, evOp, evP, St.init, St.app, srcStep, kill, setMany, loadS, fieldS, buildS, toks, Fin, upd_app, Array.isEmpty, Nat.reduceLT, Nat.reduceAdd, Nat.reduceMul, Nat.reduceLeDiff, Nat.reduceSub, Nat.reduceEqDiff, reduceCtorEq, reduceIte, ↓Opt.is, ↓Opt.no, ↓Asks.yes, ↓Asks.no, tyL, encL, asB]))
    refine ⟨fun h3 => ?_, fun h3 => ?_⟩
    · have h3 : inB l[i] 1 9 = false := by simpa using h3
      have e : (l.all fun x => inB x 1 9) = false := by
        rw [List.all_eq_false]
        exact ⟨l[i], List.getElem_mem h, by rw [h3]; exact Bool.false_ne_true⟩
      repeat (first | refine aq ?_ | refine ap (by rfl : apartB 0 _ _ = true) ?_ | refine ak ?_ | refine ab ?_ | refine al ?_ | ((first | refine ar ?_ | refine ad ty_mix (by kernel_rfl) ?_ | refine ac ?_ | refine ae ?_ | with_reducible refine Later.mk ?_); simp only [evD, evL, iteL, St.said, St.asked, evStep, evOp, evP, St.init, St.app, srcStep, kill, setMany, loadS, fieldS, buildS, toks, Fin, upd_app, Array.isEmpty, Nat.reduceLT, Nat.reduceAdd, Nat.reduceMul, Nat.reduceLeDiff, Nat.reduceSub, Nat.reduceEqDiff, reduceCtorEq, reduceIte, ↓Opt.is, ↓Opt.no, ↓Asks.yes, ↓Asks.no, tyL, encL, asB]))
      refine Ab.ret ?_; simp only [evD, evL, iteL, St.said, St.asked, evStep, evOp, evP, St.init, St.app, srcStep, kill, setMany, loadS, fieldS, buildS, toks, Fin, upd_app, Array.isEmpty, Nat.reduceLT, Nat.reduceAdd, Nat.reduceMul, Nat.reduceLeDiff, Nat.reduceSub, Nat.reduceEqDiff, reduceCtorEq, reduceIte, ↓Opt.is, ↓Opt.no, ↓Asks.yes, ↓Asks.no, tyL, List.nodup_cons, encL, Try.f61, e]
    · have h3 : inB l[i] 1 9 = true := by simpa using h3
      repeat (first | refine aq ?_ | refine ap (by rfl : apartB 0 _ _ = true) ?_ | refine ak ?_ | refine ab ?_ | refine al ?_ | ((first | refine ar ?_ | refine ad ty_mix (by kernel_rfl) ?_ | refine ac ?_ | refine ae ?_ | with_reducible refine Later.mk ?_); simp only [evD, evL, iteL, St.said, St.asked, evStep, evOp, evP, St.init, St.app, srcStep, kill, setMany, loadS, fieldS, buildS, toks, Fin, upd_app, Array.isEmpty, Nat.reduceLT, Nat.reduceAdd, Nat.reduceMul, Nat.reduceLeDiff, Nat.reduceSub, Nat.reduceEqDiff, reduceCtorEq, reduceIte, ↓Opt.is, ↓Opt.no, ↓Asks.yes, ↓Asks.no, tyL, encL, hw, asB]))
      refine ⟨h, fun j hj hji => ?_, ?_⟩
      · by_cases e : j = i
        · subst e; exact h3
        · exact hI j hj (by omega)
      · ((first | refine Le.mk rfl ?_ ?_ | refine LeTo.mk rfl ?_ ?_) <;> simp only [evD, evL, iteL, St.said, St.asked, evStep, evOp, evP, St.init, St.app, srcStep, kill, setMany, loadS, fieldS, buildS, toks, Fin, upd_app, Array.isEmpty, Nat.reduceLT, Nat.reduceAdd, Nat.reduceMul, Nat.reduceLeDiff, Nat.reduceSub, Nat.reduceEqDiff, reduceCtorEq, reduceIte, ↓Opt.is, ↓Opt.no, ↓Asks.yes, ↓Asks.no, tyL, encL, leL, leD, ne_eq])
  · have h : i = l.length := by have := of_decide_eq_false h; omega
    subst h
    have e : (l.all fun x => inB x 1 9) = true := by
      rw [List.all_eq_true]
      intro x hx
      obtain ⟨j, hj, rfl⟩ := List.mem_iff_getElem.1 hx
      exact hI j hj hj
    repeat (first | refine aq ?_ | refine ap (by rfl : apartB 0 _ _ = true) ?_ | refine ak ?_ | refine ab ?_ | refine al ?_ | ((first | refine ar ?_ | refine ad ty_mix (by kernel_rfl) ?_ | refine ac ?_ | refine ae ?_ | with_reducible refine Later.mk ?_); simp only [evD, evL, iteL, St.said, St.asked, evStep, evOp, evP, St.init, St.app, srcStep, kill, setMany, loadS, fieldS, buildS, toks, Fin, upd_app, Array.isEmpty, Nat.reduceLT, Nat.reduceAdd, Nat.reduceMul, Nat.reduceLeDiff, Nat.reduceSub, Nat.reduceEqDiff, reduceCtorEq, reduceIte, ↓Opt.is, ↓Opt.no, ↓Asks.yes, ↓Asks.no, tyL, encL, asB]))
    rcases Bool.eq_false_or_eq_true (validDb d) with hd | hd <;> rw [hd] at hv ⊢
    · by_cases hn : l.length = d.facts.length
      · refine ⟨_, hv, ?_⟩; (repeat (first | refine ap (by rfl : apartB 0 _ _ = true) ?_ | refine ap (by simp [osL, D.flat]) ?_)); repeat (first | refine aq ?_ | refine ap (by rfl : apartB 0 _ _ = true) ?_ | refine ak ?_ | refine ab ?_ | refine al ?_ | ((first | refine ar ?_ | refine ad ty_mix (by kernel_rfl) ?_ | refine ac ?_ | refine ae ?_ | with_reducible refine Later.mk ?_); simp only [evD, evL, iteL, St.said, St.asked, evStep, evOp, evP, St.init, St.app, srcStep, kill, setMany, loadS, fieldS, buildS, toks, Fin, upd_app, Array.isEmpty, Nat.reduceLT, Nat.reduceAdd, Nat.reduceMul, Nat.reduceLeDiff, Nat.reduceSub, Nat.reduceEqDiff, reduceCtorEq, reduceIte, ↓Opt.is, ↓Opt.no, ↓Asks.yes, ↓Asks.no, tyL, encL, eqN, hn, asB]))
        refine Ab.ret ?_; simp only [evD, evL, iteL, St.said, St.asked, evStep, evOp, evP, St.init, St.app, srcStep, kill, setMany, loadS, fieldS, buildS, toks, Fin, upd_app, Array.isEmpty, Nat.reduceLT, Nat.reduceAdd, Nat.reduceMul, Nat.reduceLeDiff, Nat.reduceSub, Nat.reduceEqDiff, reduceCtorEq, reduceIte, ↓Opt.is, ↓Opt.no, ↓Asks.yes, ↓Asks.no, tyL, List.nodup_cons, encL, Try.f61, hn, e]
      · refine ⟨_, hv, ?_⟩; (repeat (first | refine ap (by rfl : apartB 0 _ _ = true) ?_ | refine ap (by simp [osL, D.flat]) ?_)); repeat (first | refine aq ?_ | refine ap (by rfl : apartB 0 _ _ = true) ?_ | refine ak ?_ | refine ab ?_ | refine al ?_ | ((first | refine ar ?_ | refine ad ty_mix (by kernel_rfl) ?_ | refine ac ?_ | refine ae ?_ | with_reducible refine Later.mk ?_); simp only [evD, evL, iteL, St.said, St.asked, evStep, evOp, evP, St.init, St.app, srcStep, kill, setMany, loadS, fieldS, buildS, toks, Fin, upd_app, Array.isEmpty, Nat.reduceLT, Nat.reduceAdd, Nat.reduceMul, Nat.reduceLeDiff, Nat.reduceSub, Nat.reduceEqDiff, reduceCtorEq, reduceIte, ↓Opt.is, ↓Opt.no, ↓Asks.yes, ↓Asks.no, tyL, encL, eqN, hn, asB]))
        refine Ab.ret ?_; simp only [evD, evL, iteL, St.said, St.asked, evStep, evOp, evP, St.init, St.app, srcStep, kill, setMany, loadS, fieldS, buildS, toks, Fin, upd_app, Array.isEmpty, Nat.reduceLT, Nat.reduceAdd, Nat.reduceMul, Nat.reduceLeDiff, Nat.reduceSub, Nat.reduceEqDiff, reduceCtorEq, reduceIte, ↓Opt.is, ↓Opt.no, ↓Asks.yes, ↓Asks.no, tyL, List.nodup_cons, encL, Try.f61, hn]
    · refine ⟨_, hv, ?_⟩; (repeat (first | refine ap (by rfl : apartB 0 _ _ = true) ?_ | refine ap (by simp [osL, D.flat]) ?_)); repeat (first | refine aq ?_ | refine ap (by rfl : apartB 0 _ _ = true) ?_ | refine ak ?_ | refine ab ?_ | refine al ?_ | ((first | refine ar ?_ | refine ad ty_mix (by kernel_rfl) ?_ | refine ac ?_ | refine ae ?_ | with_reducible refine Later.mk ?_); simp only [evD, evL, iteL, St.said, St.asked, evStep, evOp, evP, St.init, St.app, srcStep, kill, setMany, loadS, fieldS, buildS, toks, Fin, upd_app, Array.isEmpty, Nat.reduceLT, Nat.reduceAdd, Nat.reduceMul, Nat.reduceLeDiff, Nat.reduceSub, Nat.reduceEqDiff, reduceCtorEq, reduceIte, ↓Opt.is, ↓Opt.no, ↓Asks.yes, ↓Asks.no, tyL, encL, asB]))
      refine Ab.ret ?_; simp only [evD, evL, iteL, St.said, St.asked, evStep, evOp, evP, St.init, St.app, srcStep, kill, setMany, loadS, fieldS, buildS, toks, Fin, upd_app, Array.isEmpty, Nat.reduceLT, Nat.reduceAdd, Nat.reduceMul, Nat.reduceLeDiff, Nat.reduceSub, Nat.reduceEqDiff, reduceCtorEq, reduceIte, ↓Opt.is, ↓Opt.no, ↓Asks.yes, ↓Asks.no, tyL, List.nodup_cons, encL, Try.f61]
/-- The number at this place. -/
def atI (w : List Int) (i : Int) : Int := w.getD i.toNat 0
theorem atI_get {w : List Int} {i : Int} (h0 : 0 ≤ i) (h1 : i < w.length) : (w.map encI)[i.toNat]? = some [.v (.int .i64 (atI w i))] := by
  have h : i.toNat < w.length := by omega
  rw [getI h]
  unfold atI
  rw [List.getD_eq_getElem?_getD, List.getElem?_eq_getElem h]
  rfl
def repW (d : Dbs) (w l : List Int) : Int := if validW d w && setIx d.facts.length l then (l.map (atI w)).foldl mulW 1 else 0
theorem setW_in {d : Dbs} {w l : List Int} (hv : validW d w = true) (hs : setIx d.facts.length l = true) : ∀ x, x ∈ l → 0 ≤ x ∧ x < (w.length : Int) := by
  have h1 : w.length = d.facts.length := by
    unfold validW at hv
    simp only [Bool.and_eq_true, decide_eq_true_eq] at hv
    exact hv.2.1
  intro x hx
  unfold setIx at hs
  simp only [Bool.and_eq_true] at hs
  have := List.all_eq_true.1 hs.1 x hx
  unfold inB at this
  simp only [Bool.and_eq_true, decide_eq_true_eq] at this
  omega
def totW (d : Dbs) (w : List Int) : Int := if validW d w then ((blocksL d).map fun b => (b.map (atI w)).foldl addW 0).foldl mulW 1 else 0
theorem blocks_in {d : Dbs} : ∀ b, b ∈ blocksL d → b.length ≤ 14 ∧ ∀ x, x ∈ b → 0 ≤ x ∧ x < (d.facts.length : Int) := by
  intro b hb
  refine ⟨blocksL_each d b hb, fun x hx => ?_⟩
  unfold blocksL at hb
  split at hb
  · obtain ⟨c, hc, rfl⟩ := List.mem_map.1 hb
    unfold ints at hx
    obtain ⟨n, hn, rfl⟩ := List.mem_map.1 hx
    have := blksI_lt hc hn
    omega
  · cases hb
theorem validW_len {d : Dbs} {w : List Int} (hv : validW d w = true) : w.length = d.facts.length := by
  unfold validW at hv
  simp only [Bool.and_eq_true, decide_eq_true_eq] at hv
  exact hv.2.1
end Go.Proofs.Ytpfljebndnfpmaa.Ab
