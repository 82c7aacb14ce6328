/- Chapter 31: RowDifference. -/
import Derived.Test.YtlhdagpimcafaaaDoorAbKeep
import Derived.Test.YtlhdagpimcafaaaDoorAbThr
import Derived.Test.YtlhdagpimcafaaaDoorSelC
import Derived.Test.YtlhdagpimcafaaaDoorRelOne
import Derived.Test.YtlhdagpimcafaaaDoorKeyOne
open Go Go.Proofs Go.RowKit
namespace Go.Proofs.YtlhdagpimcafaaaDoor.Ab
set_option linter.unusedSimpArgs false
set_option linter.unusedVariables false
set_option maxRecDepth 100000
theorem copyRows_a (L : List (List Int)) (hL : L.length ≤ 1048576) (hb : ∀ x, x ∈ L → x.length ≤ 1048576) : AC Tryd.prog 26 [.d (encIss L)] (.o 0 (encIss L)) := by
  have hc := convertAll_Lint_Lint caps_nil (fun x => x) L hL (fun x hx => copyInts_a x (hb x hx))
  rw [List.map_id'] at hc
  refine AC.intro Tryd.func26 rfl (by decide) (by simp [S.res, S.ress]) (by simp [S.os, S.oss]) (by simp [S.wfs, S.wf, dbS]) (by simp [Tryd.f26]) ?_; rw [Tryd.ntmps26]
  repeat (first | refine aq ?_ | refine ap (by rfl : apartB 0 _ _ = true) ?_ | refine ak ?_ | refine ab ?_ | refine al ?_ | ((first | refine ar ?_ | refine ad ty_mix (by kernel_rfl) ?_ | refine ac ?_ | refine ae ?_ | with_reducible refine Later.mk ?_); simp only [evD, evL, iteL, St.said, St.asked, evStep, evOp, evP, St.init, St.app, srcStep, kill, setMany, loadS, fieldS, buildS, toks, Fin, upd_app, Array.isEmpty, Nat.reduceLT, Nat.reduceAdd, Nat.reduceMul, Nat.reduceLeDiff, Nat.reduceSub, Nat.reduceEqDiff, reduceCtorEq, reduceIte, ↓Opt.is, ↓Opt.no, ↓Asks.yes, ↓Asks.no, tyL, encL, asB]))
  refine ⟨_, hc, ?_⟩; (repeat (first | refine ap (by rfl : apartB 0 _ _ = true) ?_ | refine ap (by simp [osL, D.flat]) ?_)); repeat (first | refine aq ?_ | refine ap (by rfl : apartB 0 _ _ = true) ?_ | refine ak ?_ | refine ab ?_ | refine al ?_ | ((first | refine ar ?_ | refine ad ty_mix (by kernel_rfl) ?_ | refine ac ?_ | refine ae ?_ | with_reducible refine Later.mk ?_); simp only [evD, evL, iteL, St.said, St.asked, evStep, evOp, evP, St.init, St.app, srcStep, kill, setMany, loadS, fieldS, buildS, toks, Fin, upd_app, Array.isEmpty, Nat.reduceLT, Nat.reduceAdd, Nat.reduceMul, Nat.reduceLeDiff, Nat.reduceSub, Nat.reduceEqDiff, reduceCtorEq, reduceIte, ↓Opt.is, ↓Opt.no, ↓Asks.yes, ↓Asks.no, tyL, encL, asB]))
  refine Ab.ret ?_; simp only [evD, evL, iteL, St.said, St.asked, evStep, evOp, evP, St.init, St.app, srcStep, kill, setMany, loadS, fieldS, buildS, toks, Fin, upd_app, Array.isEmpty, Nat.reduceLT, Nat.reduceAdd, Nat.reduceMul, Nat.reduceLeDiff, Nat.reduceSub, Nat.reduceEqDiff, reduceCtorEq, reduceIte, ↓Opt.is, ↓Opt.no, ↓Asks.yes, ↓Asks.no, tyL, List.nodup_cons, encL, Tryd.f26]
def rowD (a b : List (List Int)) : List (List Int) := a.filter fun r => !b.any fun x => decide (x = r)
theorem ints_cut2 {l : List Int} (g : (eSlice eInt).good l) {w : World} {K : Nat → Nat → Prop} {ov : Nat → Value} {v : Value} (hK : ∀ b o, K b o → b < w.heap.size) (hr : RdS w (ghA K ov) (.d (encIs l)) v) :
    ∃ a cap, v = .slice a l.length cap ∧ At (cSlice cInt) w l [.slice a l.length cap] := by
  have h := (eSlice eInt).at1 (x := l) rfl g hK hr
  obtain ⟨a, cap, e, _⟩ := id h
  injection e with e
  subst e
  exact ⟨a, cap, rfl, h⟩
theorem l3Ints_a {l m : List Int} (gl : (eSlice eInt).good l) (gm : (eSlice eInt).good m) : AC Tryd.prog 54 [.d (encIs l), .d (encIs m)] (.d (.v (.int .i64 (cmpL l m)))) :=
  AC.plain Tryd.func54 rfl (by decide) rfl (fun w K cs ov hK hr => by
    simp only [RdSs] at hr
    obtain ⟨v, _, rfl, h, v2, _, rfl, h2, rfl⟩ := hr
    obtain ⟨a, cap, rfl, h0⟩ := ints_cut2 gl hK h
    obtain ⟨a2, cap2, rfl, h1⟩ := ints_cut2 gm hK h2
    exact specl3Ints_c h0 h1)
theorem specRowDifference_a (a b : List (List Int)) (ga : (eSlice (eSlice eInt)).good a) (gb : (eSlice (eSlice eInt)).good b) (ha : a.length ≤ 1048576) (hae : ∀ x, x ∈ a → x.length ≤ 1048576) (hb : b.length ≤ 1048576) : AC Tryd.prog 42 [.d (encIss a), .d (encIss b)] (.o 0 (encIss (rowD a b))) := by
  refine AC.intro Tryd.func42 rfl (by decide) (by simp [S.res, S.ress]) (by simp [S.os, S.oss]) (by simp [S.wfs, S.wf, dbS]) (by simp [Tryd.f42]) ?_; rw [Tryd.ntmps42]
  repeat (first | refine aq ?_ | refine ap (by rfl : apartB 0 _ _ = true) ?_ | refine ak ?_ | refine ab ?_ | refine al ?_ | ((first | refine ar ?_ | refine ad ty_mix (by kernel_rfl) ?_ | refine ac ?_ | refine ae ?_ | with_reducible refine Later.mk ?_); simp only [evD, evL, iteL, St.said, St.asked, evStep, evOp, evP, St.init, St.app, srcStep, kill, setMany, loadS, fieldS, buildS, toks, Fin, upd_app, Array.isEmpty, Nat.reduceLT, Nat.reduceAdd, Nat.reduceMul, Nat.reduceLeDiff, Nat.reduceSub, Nat.reduceEqDiff, reduceCtorEq, reduceIte, ↓Opt.is, ↓Opt.no, ↓Asks.yes, ↓Asks.no, tyL, encL, asB]))
  refine Ab.loopI a.length (fun _ => True) (fun i => mkS 47 [(0, .d (.sl (List.map encB a))), (1, .d (.sl (List.map encB b))), (5, .g 16 ((rowD (a.take i) b).map encB)), (6, .d (.v (.int .i64 (i : Int))))] [(16, .tip true 24 1 ((rowD (a.take i) b).map encB))] 64) trivial ?_ ?_
  · ((first | refine Le.mk rfl ?_ ?_ | refine LeTo.mk rfl ?_ ?_) <;> simp only [evD, evL, iteL, St.said, St.asked, evStep, evOp, evP, St.init, St.app, srcStep, kill, setMany, loadS, fieldS, buildS, toks, Fin, upd_app, Array.isEmpty, Nat.reduceLT, Nat.reduceAdd, Nat.reduceMul, Nat.reduceLeDiff, Nat.reduceSub, Nat.reduceEqDiff, reduceCtorEq, reduceIte, ↓Opt.is, ↓Opt.no, ↓Asks.yes, ↓Asks.no, tyL, encL, leL, leD, ne_eq, List.take_zero, rowD, List.filter_nil])
  intro i hi _
  repeat (first | refine aq ?_ | refine ap (by rfl : apartB 0 _ _ = true) ?_ | refine ak ?_ | refine ab ?_ | refine al ?_ | ((first | refine ar ?_ | refine ad ty_mix (by kernel_rfl) ?_ | refine ac ?_ | refine ae ?_ | with_reducible refine Later.mk ?_); simp only [evD, evL, iteL, St.said, St.asked, evStep, evOp, evP, St.init, St.app, srcStep, kill, setMany, loadS, fieldS, buildS, toks, Fin, upd_app, Array.isEmpty, Nat.reduceLT, Nat.reduceAdd, Nat.reduceMul, Nat.reduceLeDiff, Nat.reduceSub, Nat.reduceEqDiff, reduceCtorEq, reduceIte, ↓Opt.is, ↓Opt.no, ↓Asks.yes, ↓Asks.no, tyL, encL, mkS, updl, asB]))
  refine ⟨fun h => ?_, fun h => ?_⟩
  · have h : i < a.length := by simpa using h
    have hw := wrapN h (by omega)
    have hsl : (rowD (a.take i) b).length ≤ i := Nat.le_trans (List.length_filter_le _ _) (by rw [List.length_take]; omega)
    have hs : rowD (a.take (i + 1)) b = rowD (a.take i) b ++ (if (!b.any fun x => decide (x = a[i])) = true then [a[i]] else []) := by
      unfold rowD
      rw [List.take_succ_eq_append_getElem h, List.filter_append]
      simp only [List.filter_cons, List.filter_nil]
    have hai := hae _ (List.getElem_mem h)
    generalize rowD (a.take i) b = R at *
    repeat (first | refine aq ?_ | refine ap (by rfl : apartB 0 _ _ = true) ?_ | refine ak ?_ | refine ab ?_ | refine al ?_ | ((first | refine ar ?_ | refine ad ty_mix (by kernel_rfl) ?_ | refine ac ?_ | refine ae ?_ | with_reducible refine Later.mk ?_); simp only [evD, evL, iteL, St.said, St.asked, evStep, evOp, evP, St.init, St.app, srcStep, kill, setMany, loadS, fieldS, buildS, toks, Fin, upd_app, Array.isEmpty, Nat.reduceLT, Nat.reduceAdd, Nat.reduceMul, Nat.reduceLeDiff, Nat.reduceSub, Nat.reduceEqDiff, reduceCtorEq, reduceIte, ↓Opt.is, ↓Opt.no, ↓Asks.yes, ↓Asks.no, tyL, encL, asB]))
    refine Ab.loopI b.length (fun _ => True) (fun k => mkS 47 [(0, .d (.sl (List.map encB a))), (1, .d (.sl (List.map encB b))), (5, .g 16 (R.map encB)), (6, .d (.v (.int .i64 (i : Int)))), (7, .d (.v (.bool ((b.take k).any fun x => decide (x = a[i]))))), (8, .d (.v (.int .i64 (k : Int))))] [(16, .tip true 24 1 (R.map encB))] 500) trivial ?_ ?_
    · ((first | refine Le.mk rfl ?_ ?_ | refine LeTo.mk rfl ?_ ?_) <;> simp only [evD, evL, iteL, St.said, St.asked, evStep, evOp, evP, St.init, St.app, srcStep, kill, setMany, loadS, fieldS, buildS, toks, Fin, upd_app, Array.isEmpty, Nat.reduceLT, Nat.reduceAdd, Nat.reduceMul, Nat.reduceLeDiff, Nat.reduceSub, Nat.reduceEqDiff, reduceCtorEq, reduceIte, ↓Opt.is, ↓Opt.no, ↓Asks.yes, ↓Asks.no, tyL, encL, leL, leD, ne_eq, List.take_zero, List.any_nil])
    intro k hk _
    repeat (first | refine aq ?_ | refine ap (by rfl : apartB 0 _ _ = true) ?_ | refine ak ?_ | refine ab ?_ | refine al ?_ | ((first | refine ar ?_ | refine ad ty_mix (by kernel_rfl) ?_ | refine ac ?_ | refine ae ?_ | with_reducible refine Later.mk ?_); simp only [evD, evL, iteL, St.said, St.asked, evStep, evOp, evP, St.init, St.app, srcStep, kill, setMany, loadS, fieldS, buildS, toks, Fin, upd_app, Array.isEmpty, Nat.reduceLT, Nat.reduceAdd, Nat.reduceMul, Nat.reduceLeDiff, Nat.reduceSub, Nat.reduceEqDiff, reduceCtorEq, reduceIte, ↓Opt.is, ↓Opt.no, ↓Asks.yes, ↓Asks.no, tyL, encL, mkS, updl, asB]))
    refine ⟨fun h2 => ?_, fun h2 => ?_⟩
    · have h2 : k < b.length := by simpa using h2
      have hw2 := wrapN h2 (by omega)
      have hst : ((b.take (k + 1)).any fun x => decide (x = a[i])) = (((b.take k).any fun x => decide (x = a[i])) || decide (b[k] = a[i])) := by
        rw [List.take_succ_eq_append_getElem h2, List.any_append]; simp
      have hz : (cmpL a[i] b[k] == 0) = decide (b[k] = a[i]) := by
        rw [Bool.eq_iff_iff, beq_iff_eq, cmpL_zero, decide_eq_true_eq]
        exact eq_comm
      have hc := l3Ints_a (ga.2 _ (List.getElem_mem h)) (gb.2 _ (List.getElem_mem h2))
      rcases Bool.eq_false_or_eq_true ((b.take k).any fun x => decide (x = a[i])) with hm | hm
      · rw [hm] at hst
        repeat (first | refine aq ?_ | refine ap (by rfl : apartB 0 _ _ = true) ?_ | refine ak ?_ | refine ab ?_ | refine al ?_ | ((first | refine ar ?_ | refine ad ty_mix (by kernel_rfl) ?_ | refine ac ?_ | refine ae ?_ | with_reducible refine Later.mk ?_); simp only [evD, evL, iteL, St.said, St.asked, evStep, evOp, evP, St.init, St.app, srcStep, kill, setMany, loadS, fieldS, buildS, toks, Fin, upd_app, Array.isEmpty, Nat.reduceLT, Nat.reduceAdd, Nat.reduceMul, Nat.reduceLeDiff, Nat.reduceSub, Nat.reduceEqDiff, reduceCtorEq, reduceIte, ↓Opt.is, ↓Opt.no, ↓Asks.yes, ↓Asks.no, tyL, encL, hm, hw2, asB]))
        refine ⟨h2, ?_⟩
        ((first | refine Le.mk rfl ?_ ?_ | refine LeTo.mk rfl ?_ ?_) <;> simp only [evD, evL, iteL, St.said, St.asked, evStep, evOp, evP, St.init, St.app, srcStep, kill, setMany, loadS, fieldS, buildS, toks, Fin, upd_app, Array.isEmpty, Nat.reduceLT, Nat.reduceAdd, Nat.reduceMul, Nat.reduceLeDiff, Nat.reduceSub, Nat.reduceEqDiff, reduceCtorEq, reduceIte, ↓Opt.is, ↓Opt.no, ↓Asks.yes, ↓Asks.no, tyL, encL, leL, leD, ne_eq, hst])
        simp
      · rw [hm] at hst
        repeat (first | refine aq ?_ | refine ap (by rfl : apartB 0 _ _ = true) ?_ | refine ak ?_ | refine ab ?_ | refine al ?_ | ((first | refine ar ?_ | refine ad ty_mix (by kernel_rfl) ?_ | refine ac ?_ | refine ae ?_ | with_reducible refine Later.mk ?_); simp only [evD, evL, iteL, St.said, St.asked, evStep, evOp, evP, St.init, St.app, srcStep, kill, setMany, loadS, fieldS, buildS, toks, Fin, upd_app, Array.isEmpty, Nat.reduceLT, Nat.reduceAdd, Nat.reduceMul, Nat.reduceLeDiff, Nat.reduceSub, Nat.reduceEqDiff, reduceCtorEq, reduceIte, ↓Opt.is, ↓Opt.no, ↓Asks.yes, ↓Asks.no, tyL, encL, hm, getB h, getB h2, asB]))
        refine ⟨_, hc, ?_⟩; (repeat (first | refine ap (by rfl : apartB 0 _ _ = true) ?_ | refine ap (by simp [osL, D.flat]) ?_)); repeat (first | refine aq ?_ | refine ap (by rfl : apartB 0 _ _ = true) ?_ | refine ak ?_ | refine ab ?_ | refine al ?_ | ((first | refine ar ?_ | refine ad ty_mix (by kernel_rfl) ?_ | refine ac ?_ | refine ae ?_ | with_reducible refine Later.mk ?_); simp only [evD, evL, iteL, St.said, St.asked, evStep, evOp, evP, St.init, St.app, srcStep, kill, setMany, loadS, fieldS, buildS, toks, Fin, upd_app, Array.isEmpty, Nat.reduceLT, Nat.reduceAdd, Nat.reduceMul, Nat.reduceLeDiff, Nat.reduceSub, Nat.reduceEqDiff, reduceCtorEq, reduceIte, ↓Opt.is, ↓Opt.no, ↓Asks.yes, ↓Asks.no, tyL, encL, hz, hw2, asB]))
        refine ⟨h2, ?_⟩
        ((first | refine Le.mk rfl ?_ ?_ | refine LeTo.mk rfl ?_ ?_) <;> simp only [evD, evL, iteL, St.said, St.asked, evStep, evOp, evP, St.init, St.app, srcStep, kill, setMany, loadS, fieldS, buildS, toks, Fin, upd_app, Array.isEmpty, Nat.reduceLT, Nat.reduceAdd, Nat.reduceMul, Nat.reduceLeDiff, Nat.reduceSub, Nat.reduceEqDiff, reduceCtorEq, reduceIte, ↓Opt.is, ↓Opt.no, ↓Asks.yes, ↓Asks.no, tyL, encL, leL, leD, ne_eq, hst])
        simp
    · have h2 : k = b.length := by have := of_decide_eq_false h2; omega
      subst h2
      repeat (first | refine aq ?_ | refine ap (by rfl : apartB 0 _ _ = true) ?_ | refine ak ?_ | refine ab ?_ | refine al ?_ | ((first | refine ar ?_ | refine ad ty_mix (by kernel_rfl) ?_ | refine ac ?_ | refine ae ?_ | with_reducible refine Later.mk ?_); simp only [evD, evL, iteL, St.said, St.asked, evStep, evOp, evP, St.init, St.app, srcStep, kill, setMany, loadS, fieldS, buildS, toks, Fin, upd_app, Array.isEmpty, Nat.reduceLT, Nat.reduceAdd, Nat.reduceMul, Nat.reduceLeDiff, Nat.reduceSub, Nat.reduceEqDiff, reduceCtorEq, reduceIte, ↓Opt.is, ↓Opt.no, ↓Asks.yes, ↓Asks.no, tyL, encL, List.take_length, asB]))
      refine ⟨fun h3 => ?_, fun h3 => ?_⟩
      · rw [if_pos h3] at hs
        repeat (first | refine aq ?_ | refine ap (by rfl : apartB 0 _ _ = true) ?_ | refine ak ?_ | refine ab ?_ | refine al ?_ | ((first | refine ar ?_ | refine ad ty_mix (by kernel_rfl) ?_ | refine ac ?_ | refine ae ?_ | with_reducible refine Later.mk ?_); simp only [evD, evL, iteL, St.said, St.asked, evStep, evOp, evP, St.init, St.app, srcStep, kill, setMany, loadS, fieldS, buildS, toks, Fin, upd_app, Array.isEmpty, Nat.reduceLT, Nat.reduceAdd, Nat.reduceMul, Nat.reduceLeDiff, Nat.reduceSub, Nat.reduceEqDiff, reduceCtorEq, reduceIte, ↓Opt.is, ↓Opt.no, ↓Asks.yes, ↓Asks.no, tyL, encL, getB h, asB]))
        refine ⟨encIs_len _, true, fun _ => encIs_flat _, Later.mk ?_⟩
        simp only [evD, evL, iteL, St.said, St.asked, evStep, evOp, evP, St.init, St.app, srcStep, kill, setMany, loadS, fieldS, buildS, toks, Fin, upd_app, Array.isEmpty, Nat.reduceLT, Nat.reduceAdd, Nat.reduceMul, Nat.reduceLeDiff, Nat.reduceSub, Nat.reduceEqDiff, reduceCtorEq, reduceIte, ↓Opt.is, ↓Opt.no, ↓Asks.yes, ↓Asks.no, tyL, encL]
        refine ⟨by simp only [maxLen]; omega, by omega, ?_⟩
        repeat (first | refine aq ?_ | refine ap (by rfl : apartB 0 _ _ = true) ?_ | refine ak ?_ | refine ab ?_ | refine al ?_ | ((first | refine ar ?_ | refine ad ty_mix (by kernel_rfl) ?_ | refine ac ?_ | refine ae ?_ | with_reducible refine Later.mk ?_); simp only [evD, evL, iteL, St.said, St.asked, evStep, evOp, evP, St.init, St.app, srcStep, kill, setMany, loadS, fieldS, buildS, toks, Fin, upd_app, Array.isEmpty, Nat.reduceLT, Nat.reduceAdd, Nat.reduceMul, Nat.reduceLeDiff, Nat.reduceSub, Nat.reduceEqDiff, reduceCtorEq, reduceIte, ↓Opt.is, ↓Opt.no, ↓Asks.yes, ↓Asks.no, tyL, encL, asB]))
        refine ⟨⟨_, _, _, _, rfl, rfl⟩, by simp, by simp only [maxLen]; omega, by omega, ?_⟩
        repeat (first | refine aq ?_ | refine ap (by rfl : apartB 0 _ _ = true) ?_ | refine ak ?_ | refine ab ?_ | refine al ?_ | ((first | refine ar ?_ | refine ad ty_mix (by kernel_rfl) ?_ | refine ac ?_ | refine ae ?_ | with_reducible refine Later.mk ?_); simp only [evD, evL, iteL, St.said, St.asked, evStep, evOp, evP, St.init, St.app, srcStep, kill, setMany, loadS, fieldS, buildS, toks, Fin, upd_app, Array.isEmpty, Nat.reduceLT, Nat.reduceAdd, Nat.reduceMul, Nat.reduceLeDiff, Nat.reduceSub, Nat.reduceEqDiff, reduceCtorEq, reduceIte, ↓Opt.is, ↓Opt.no, ↓Asks.yes, ↓Asks.no, tyL, encL, hw, asB]))
        refine ⟨h, ?_⟩
        ((first | refine Le.mk rfl ?_ ?_ | refine LeTo.mk rfl ?_ ?_) <;> simp only [evD, evL, iteL, St.said, St.asked, evStep, evOp, evP, St.init, St.app, srcStep, kill, setMany, loadS, fieldS, buildS, toks, Fin, upd_app, Array.isEmpty, Nat.reduceLT, Nat.reduceAdd, Nat.reduceMul, Nat.reduceLeDiff, Nat.reduceSub, Nat.reduceEqDiff, reduceCtorEq, reduceIte, ↓Opt.is, ↓Opt.no, ↓Asks.yes, ↓Asks.no, tyL, encL, leL, leD, ne_eq, hs, List.map_append])
      · rw [if_neg (by rw [h3]; exact Bool.false_ne_true), List.append_nil] at hs
        repeat (first | refine aq ?_ | refine ap (by rfl : apartB 0 _ _ = true) ?_ | refine ak ?_ | refine ab ?_ | refine al ?_ | ((first | refine ar ?_ | refine ad ty_mix (by kernel_rfl) ?_ | refine ac ?_ | refine ae ?_ | with_reducible refine Later.mk ?_); simp only [evD, evL, iteL, St.said, St.asked, evStep, evOp, evP, St.init, St.app, srcStep, kill, setMany, loadS, fieldS, buildS, toks, Fin, upd_app, Array.isEmpty, Nat.reduceLT, Nat.reduceAdd, Nat.reduceMul, Nat.reduceLeDiff, Nat.reduceSub, Nat.reduceEqDiff, reduceCtorEq, reduceIte, ↓Opt.is, ↓Opt.no, ↓Asks.yes, ↓Asks.no, tyL, encL, hw, asB]))
        refine ⟨h, ?_⟩
        ((first | refine Le.mk rfl ?_ ?_ | refine LeTo.mk rfl ?_ ?_) <;> simp only [evD, evL, iteL, St.said, St.asked, evStep, evOp, evP, St.init, St.app, srcStep, kill, setMany, loadS, fieldS, buildS, toks, Fin, upd_app, Array.isEmpty, Nat.reduceLT, Nat.reduceAdd, Nat.reduceMul, Nat.reduceLeDiff, Nat.reduceSub, Nat.reduceEqDiff, reduceCtorEq, reduceIte, ↓Opt.is, ↓Opt.no, ↓Asks.yes, ↓Asks.no, tyL, encL, leL, leD, ne_eq, hs])
  · have h : i = a.length := by have := of_decide_eq_false h; omega
    subst h
    repeat (first | refine aq ?_ | refine ap (by rfl : apartB 0 _ _ = true) ?_ | refine ak ?_ | refine ab ?_ | refine al ?_ | ((first | refine ar ?_ | refine ad ty_mix (by kernel_rfl) ?_ | refine ac ?_ | refine ae ?_ | with_reducible refine Later.mk ?_); simp only [evD, evL, iteL, St.said, St.asked, evStep, evOp, evP, St.init, St.app, srcStep, kill, setMany, loadS, fieldS, buildS, toks, Fin, upd_app, Array.isEmpty, Nat.reduceLT, Nat.reduceAdd, Nat.reduceMul, Nat.reduceLeDiff, Nat.reduceSub, Nat.reduceEqDiff, reduceCtorEq, reduceIte, ↓Opt.is, ↓Opt.no, ↓Asks.yes, ↓Asks.no, tyL, encL, asB]))
    refine Ab.ret ?_; simp only [evD, evL, iteL, St.said, St.asked, evStep, evOp, evP, St.init, St.app, srcStep, kill, setMany, loadS, fieldS, buildS, toks, Fin, upd_app, Array.isEmpty, Nat.reduceLT, Nat.reduceAdd, Nat.reduceMul, Nat.reduceLeDiff, Nat.reduceSub, Nat.reduceEqDiff, reduceCtorEq, reduceIte, ↓Opt.is, ↓Opt.no, ↓Asks.yes, ↓Asks.no, tyL, List.nodup_cons, encL, Tryd.f42, List.take_length]
    exact ⟨_, _, rfl⟩
theorem filter_lvs (p : List Int → Bool) (l : List (List Int)) : ((l.filter p).map List.length).sum ≤ (l.map List.length).sum := by
  induction l with
  | nil => simp
  | cons x l ih =>
    rw [List.filter_cons]
    split
    · simp only [List.map_cons, List.sum_cons]; omega
    · simp only [List.map_cons, List.sum_cons]; omega
theorem rowD_lvs {a b : List (List Int)} (h : sizeIntSS a ≤ 1048576) : ((rowD a b).map List.length).sum ≤ 4611686018427000000 := by
  have h1 := filter_lvs (fun r => !b.any fun x => decide (x = r)) a
  have h2 : (a.map List.length).sum ≤ 1048576 := Nat.le_trans (Nat.le_add_left _ _) h
  exact Nat.le_trans h1 (by omega)
theorem rowD_good {a b : List (List Int)} (h : (eSlice (eSlice eInt)).good a) : (eSlice (eSlice eInt)).good (rowD a b) :=
  ⟨Nat.le_trans (List.length_filter_le _ _) h.1, fun x hx => h.2 x (List.mem_filter.1 hx).1⟩
end Go.Proofs.YtlhdagpimcafaaaDoor.Ab

