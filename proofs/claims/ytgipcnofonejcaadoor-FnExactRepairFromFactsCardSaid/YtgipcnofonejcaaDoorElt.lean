/- Sets of bits: their numbers as they ascend; grown sets below a bound. -/
import Derived.Test.YtgipcnofonejcaaDoorCloOne
import Derived.Test.YtgipcnofonejcaaDoorTz
open Go Go.Proofs Go.RowKit
namespace Go.Proofs.YtgipcnofonejcaaDoor.Ab
set_option linter.unusedSimpArgs false
set_option linter.unusedVariables false
set_option maxRecDepth 100000
theorem first_a (x : Nat) (hx : x < 18446744073709551616) : AC Tryd.prog 61 [.d (.v (.int .u64 (x : Int)))] (.d (.v (.int .i64 (Go.Lib.ctz 64 x : Nat)))) := by
  have hc := tz_a x hx
  refine AC.intro Tryd.func61 rfl (by decide) (by simp [S.res, S.ress]) (by simp [S.os, S.oss]) (by simp [S.wfs, S.wf, dbS]) (by simp [Tryd.f61]) ?_; rw [Tryd.ntmps61]
  repeat (first | refine aq ?_ | refine ap (by rfl : apartB 0 _ _ = true) ?_ | refine ak ?_ | refine ab ?_ | refine al ?_ | ((first | refine ar ?_ | refine ad ty_mix (by kernel_rfl) ?_ | refine ac ?_ | refine ae ?_ | with_reducible refine Later.mk ?_); simp only [evD, evL, iteL, St.said, St.asked, evStep, evOp, evP, St.init, St.app, srcStep, kill, setMany, loadS, fieldS, buildS, toks, Fin, upd_app, Array.isEmpty, Nat.reduceLT, Nat.reduceAdd, Nat.reduceMul, Nat.reduceLeDiff, Nat.reduceSub, Nat.reduceEqDiff, reduceCtorEq, reduceIte, ↓Opt.is, ↓Opt.no, ↓Asks.yes, ↓Asks.no, tyL, encL, asB]))
  refine ⟨_, hc, ?_⟩; (repeat (first | refine ap (by rfl : apartB 0 _ _ = true) ?_ | refine ap (by simp [osL, D.flat]) ?_)); repeat (first | refine aq ?_ | refine ap (by rfl : apartB 0 _ _ = true) ?_ | refine ak ?_ | refine ab ?_ | refine al ?_ | ((first | refine ar ?_ | refine ad ty_mix (by kernel_rfl) ?_ | refine ac ?_ | refine ae ?_ | with_reducible refine Later.mk ?_); simp only [evD, evL, iteL, St.said, St.asked, evStep, evOp, evP, St.init, St.app, srcStep, kill, setMany, loadS, fieldS, buildS, toks, Fin, upd_app, Array.isEmpty, Nat.reduceLT, Nat.reduceAdd, Nat.reduceMul, Nat.reduceLeDiff, Nat.reduceSub, Nat.reduceEqDiff, reduceCtorEq, reduceIte, ↓Opt.is, ↓Opt.no, ↓Asks.yes, ↓Asks.no, tyL, encL, asB]))
  refine Ab.ret ?_; simp only [evD, evL, iteL, St.said, St.asked, evStep, evOp, evP, St.init, St.app, srcStep, kill, setMany, loadS, fieldS, buildS, toks, Fin, upd_app, Array.isEmpty, Nat.reduceLT, Nat.reduceAdd, Nat.reduceMul, Nat.reduceLeDiff, Nat.reduceSub, Nat.reduceEqDiff, reduceCtorEq, reduceIte, ↓Opt.is, ↓Opt.no, ↓Asks.yes, ↓Asks.no, tyL, List.nodup_cons, encL, Tryd.f61]
theorem elements_a (b : Nat) (hb : b < 18446744073709551616) : AC Tryd.prog 87 [.d (.v (.int .u64 (b : Int)))] (.o 0 (encIs (elemsN 64 b))) := by
  refine AC.intro Tryd.func87 rfl (by decide) (by simp [S.res, S.ress]) (by simp [S.os, S.oss]) (by simp [S.wfs, S.wf, dbS]) (by simp [Tryd.f87]) ?_; rw [Tryd.ntmps87]
  repeat (first | refine aq ?_ | refine ap (by rfl : apartB 0 _ _ = true) ?_ | refine ak ?_ | refine ab ?_ | refine al ?_ | ((first | refine ar ?_ | refine ad ty_mix (by kernel_rfl) ?_ | refine ac ?_ | refine ae ?_ | with_reducible refine Later.mk ?_); simp only [evD, evL, iteL, St.said, St.asked, evStep, evOp, evP, St.init, St.app, srcStep, kill, setMany, loadS, fieldS, buildS, toks, Fin, upd_app, Array.isEmpty, Nat.reduceLT, Nat.reduceAdd, Nat.reduceMul, Nat.reduceLeDiff, Nat.reduceSub, Nat.reduceEqDiff, reduceCtorEq, reduceIte, ↓Opt.is, ↓Opt.no, ↓Asks.yes, ↓Asks.no, tyL, encL, asB]))
  refine Ab.weaken (Le.adopt (t := 3) (id := 1) (n := 1) 3 (by omega) (by simp only [evD, evL, iteL, St.said, St.asked, evStep, evOp, evP, St.init, St.app, srcStep, kill, setMany, loadS, fieldS, buildS, toks, Fin, upd_app, Array.isEmpty, Nat.reduceLT, Nat.reduceAdd, Nat.reduceMul, Nat.reduceLeDiff, Nat.reduceSub, Nat.reduceEqDiff, reduceCtorEq, reduceIte, ↓Opt.is, ↓Opt.no, ↓Asks.yes, ↓Asks.no, tyL, encL]) (by simp only [evD, evL, iteL, St.said, St.asked, evStep, evOp, evP, St.init, St.app, srcStep, kill, setMany, loadS, fieldS, buildS, toks, Fin, upd_app, Array.isEmpty, Nat.reduceLT, Nat.reduceAdd, Nat.reduceMul, Nat.reduceLeDiff, Nat.reduceSub, Nat.reduceEqDiff, reduceCtorEq, reduceIte, ↓Opt.is, ↓Opt.no, ↓Asks.yes, ↓Asks.no, tyL, encL])) ?_
  simp only [evD, evL, iteL, St.said, St.asked, evStep, evOp, evP, St.init, St.app, srcStep, kill, setMany, loadS, fieldS, buildS, toks, Fin, upd_app, Array.isEmpty, Nat.reduceLT, Nat.reduceAdd, Nat.reduceMul, Nat.reduceLeDiff, Nat.reduceSub, Nat.reduceEqDiff, reduceCtorEq, reduceIte, ↓Opt.is, ↓Opt.no, ↓Asks.yes, ↓Asks.no, tyL, encL]
  refine Ab.loopG (([] : List Int), b) (fun p => p.2) (fun p => p.2 < 18446744073709551616 ∧ p.1 ++ elemsN 64 p.2 = elemsN 64 b) (fun p => mkS 18 [(3, .g 1 (p.1.map encI)), (4, .d (.v (.int .u64 (p.2 : Int))))] [(1, .tip true 3 1 (p.1.map encI))] 100) ⟨hb, rfl⟩ ?_ ?_
  · ((first | refine Le.mk rfl ?_ ?_ | refine LeTo.mk rfl ?_ ?_) <;> simp only [evD, evL, iteL, St.said, St.asked, evStep, evOp, evP, St.init, St.app, srcStep, kill, setMany, loadS, fieldS, buildS, toks, Fin, upd_app, Array.isEmpty, Nat.reduceLT, Nat.reduceAdd, Nat.reduceMul, Nat.reduceLeDiff, Nat.reduceSub, Nat.reduceEqDiff, reduceCtorEq, reduceIte, ↓Opt.is, ↓Opt.no, ↓Asks.yes, ↓Asks.no, tyL, encL, leL, leD, ne_eq])
  rintro ⟨E, r⟩ ⟨hr, hE⟩
  simp only at hr hE ⊢
  have hlen : E.length + (elemsN 64 r).length ≤ 64 := by rw [← List.length_append, hE]; exact elems_len 64 b
  have hne := ne0N r
  by_cases h0 : r = 0
  · have hd : decide (r ≠ 0) = false := decide_eq_false (fun h => h h0)
    rw [hd] at hne
    have hE2 : E = elemsN 64 b := by
      rw [h0, elems_zero, List.append_nil] at hE
      exact hE
    repeat (first | refine aq ?_ | refine ap (by rfl : apartB 0 _ _ = true) ?_ | refine ak ?_ | refine ab ?_ | refine al ?_ | ((first | refine ar ?_ | refine ad ty_mix (by kernel_rfl) ?_ | refine ac ?_ | refine ae ?_ | with_reducible refine Later.mk ?_); simp only [evD, evL, iteL, St.said, St.asked, evStep, evOp, evP, St.init, St.app, srcStep, kill, setMany, loadS, fieldS, buildS, toks, Fin, upd_app, Array.isEmpty, Nat.reduceLT, Nat.reduceAdd, Nat.reduceMul, Nat.reduceLeDiff, Nat.reduceSub, Nat.reduceEqDiff, reduceCtorEq, reduceIte, ↓Opt.is, ↓Opt.no, ↓Asks.yes, ↓Asks.no, tyL, encL, mkS, updl, hne, asB]))
    refine Ab.ret ?_; simp only [evD, evL, iteL, St.said, St.asked, evStep, evOp, evP, St.init, St.app, srcStep, kill, setMany, loadS, fieldS, buildS, toks, Fin, upd_app, Array.isEmpty, Nat.reduceLT, Nat.reduceAdd, Nat.reduceMul, Nat.reduceLeDiff, Nat.reduceSub, Nat.reduceEqDiff, reduceCtorEq, reduceIte, ↓Opt.is, ↓Opt.no, ↓Asks.yes, ↓Asks.no, tyL, List.nodup_cons, encL, Tryd.f87, hE2]
    exact ⟨_, _, rfl⟩
  · have hd : decide (r ≠ 0) = true := decide_eq_true h0
    rw [hd] at hne
    have hc := first_a r hr
    have hst := elems_step h0 hr (Nat.le_refl 64)
    rw [hst, List.length_cons] at hlen
    have e1 : IntKind.u64.wrap ((r : Int) - 1) = ((r - 1 : Nat) : Int) := by rw [IntKind.wrap_u64]; omega
    have e2 := bAnd r (r - 1) hr (by omega)
    have hlt : r &&& (r - 1) ≤ r - 1 := Nat.and_le_right
    repeat (first | refine aq ?_ | refine ap (by rfl : apartB 0 _ _ = true) ?_ | refine ak ?_ | refine ab ?_ | refine al ?_ | ((first | refine ar ?_ | refine ad ty_mix (by kernel_rfl) ?_ | refine ac ?_ | refine ae ?_ | with_reducible refine Later.mk ?_); simp only [evD, evL, iteL, St.said, St.asked, evStep, evOp, evP, St.init, St.app, srcStep, kill, setMany, loadS, fieldS, buildS, toks, Fin, upd_app, Array.isEmpty, Nat.reduceLT, Nat.reduceAdd, Nat.reduceMul, Nat.reduceLeDiff, Nat.reduceSub, Nat.reduceEqDiff, reduceCtorEq, reduceIte, ↓Opt.is, ↓Opt.no, ↓Asks.yes, ↓Asks.no, tyL, encL, mkS, updl, hne, asB]))
    refine ⟨_, hc, ?_⟩; (repeat (first | refine ap (by rfl : apartB 0 _ _ = true) ?_ | refine ap (by simp [osL, D.flat]) ?_)); repeat (first | refine aq ?_ | refine ap (by rfl : apartB 0 _ _ = true) ?_ | refine ak ?_ | refine ab ?_ | refine al ?_ | ((first | refine ar ?_ | refine ad ty_mix (by kernel_rfl) ?_ | refine ac ?_ | refine ae ?_ | with_reducible refine Later.mk ?_); simp only [evD, evL, iteL, St.said, St.asked, evStep, evOp, evP, St.init, St.app, srcStep, kill, setMany, loadS, fieldS, buildS, toks, Fin, upd_app, Array.isEmpty, Nat.reduceLT, Nat.reduceAdd, Nat.reduceMul, Nat.reduceLeDiff, Nat.reduceSub, Nat.reduceEqDiff, reduceCtorEq, reduceIte, ↓Opt.is, ↓Opt.no, ↓Asks.yes, ↓Asks.no, tyL, encL, asB]))
    refine ⟨by simp only [maxLen]; omega, by omega, ?_⟩
    repeat (first | refine aq ?_ | refine ap (by rfl : apartB 0 _ _ = true) ?_ | refine ak ?_ | refine ab ?_ | refine al ?_ | ((first | refine ar ?_ | refine ad ty_mix (by kernel_rfl) ?_ | refine ac ?_ | refine ae ?_ | with_reducible refine Later.mk ?_); simp only [evD, evL, iteL, St.said, St.asked, evStep, evOp, evP, St.init, St.app, srcStep, kill, setMany, loadS, fieldS, buildS, toks, Fin, upd_app, Array.isEmpty, Nat.reduceLT, Nat.reduceAdd, Nat.reduceMul, Nat.reduceLeDiff, Nat.reduceSub, Nat.reduceEqDiff, reduceCtorEq, reduceIte, ↓Opt.is, ↓Opt.no, ↓Asks.yes, ↓Asks.no, tyL, encL, e1, e2, asB]))
    refine ⟨(E ++ [(Go.Lib.ctz 64 r : Int)], r &&& (r - 1)), by simp only; omega, ⟨by simp only; omega, ?_⟩, ?_⟩
    · simp only
      rw [List.append_assoc, List.singleton_append, ← hst]
      exact hE
    · ((first | refine Le.mk rfl ?_ ?_ | refine LeTo.mk rfl ?_ ?_) <;> simp only [evD, evL, iteL, St.said, St.asked, evStep, evOp, evP, St.init, St.app, srcStep, kill, setMany, loadS, fieldS, buildS, toks, Fin, upd_app, Array.isEmpty, Nat.reduceLT, Nat.reduceAdd, Nat.reduceMul, Nat.reduceLeDiff, Nat.reduceSub, Nat.reduceEqDiff, reduceCtorEq, reduceIte, ↓Opt.is, ↓Opt.no, ↓Asks.yes, ↓Asks.no, tyL, encL, leL, leD, ne_eq, List.map_append, encI])
end Go.Proofs.YtgipcnofonejcaaDoor.Ab
