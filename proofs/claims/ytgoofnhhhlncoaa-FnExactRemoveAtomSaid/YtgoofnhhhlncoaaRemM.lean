/- Chapter 11: RemoveAtom, the model's. -/
import Derived.Test.YtgoofnhhhlncoaaL11C
import Derived.Test.YtgoofnhhhlncoaaIsx
open Go Go.Proofs Go.RowKit
namespace Go.Proofs.Ytgoofnhhhlncoaa.Ab
set_option linter.unusedSimpArgs false
set_option linter.unusedVariables false
set_option maxRecDepth 100000
theorem specRemoveAtom_a {q : Qry} (gq : eQry.good q) (k : Int) (h1 : q.atoms.length ≤ 1048576) (h2 : q.free.length ≤ 1048576) (h3 : ∀ x, x ∈ q.atoms → x.terms.length ≤ 1048576) :
    AC Try.prog 16 [qryS q, .d (.v (.int .i64 k))] (.a [.d (.v (.int .i64 q.vars)), .d (encAs (remP q.atoms k q.atoms.length)), .d (encIs q.free)]) := by
  have hc := l11CopyQ_a h1 h2 h3
  have hwn : IntKind.i64.wrap ((q.atoms.length : Int) - 1) = (q.atoms.length : Int) - 1 := by rw [IntKind.wrap_i64]; omega
  have hib := in_b k 0 ((q.atoms.length : Int) - 1)
  unfold qryS at hc ⊢
  refine AC.intro Try.func16 rfl (by decide) (by simp [S.res, S.ress]) (by simp [S.os, S.oss]) (by simp [S.wfs, S.wf, dbS]) (by simp [Try.f16]) ?_; rw [Try.ntmps16]
  repeat (first | refine aq ?_ | refine ap (by rfl : apartB 0 _ _ = true) ?_ | refine ak ?_ | refine ab ?_ | refine al ?_ | ((first | refine ar ?_ | refine ad ty_mix (by kernel_rfl) ?_ | refine ac ?_ | refine ae ?_ | with_reducible refine Later.mk ?_); simp only [evD, evL, iteL, St.said, St.asked, evStep, evOp, evP, St.init, St.app, srcStep, kill, setMany, loadS, fieldS, buildS, toks, Fin, upd_app, Array.isEmpty, Nat.reduceLT, Nat.reduceAdd, Nat.reduceMul, Nat.reduceLeDiff, Nat.reduceSub, Nat.reduceEqDiff, reduceCtorEq, reduceIte, ↓Opt.is, ↓Opt.no, ↓Asks.yes, ↓Asks.no, tyL, encL, asB]))
  refine ⟨_, hc, ?_⟩; (repeat (first | refine ap (by rfl : apartB 0 _ _ = true) ?_ | refine ap (by simp [osL, D.flat]) ?_)); repeat (first | refine aq ?_ | refine ap (by rfl : apartB 0 _ _ = true) ?_ | refine ak ?_ | refine ab ?_ | refine al ?_ | ((first | refine ar ?_ | refine ad ty_mix (by kernel_rfl) ?_ | refine ac ?_ | refine ae ?_ | with_reducible refine Later.mk ?_); simp only [evD, evL, iteL, St.said, St.asked, evStep, evOp, evP, St.init, St.app, srcStep, kill, setMany, loadS, fieldS, buildS, toks, Fin, upd_app, Array.isEmpty, Nat.reduceLT, Nat.reduceAdd, Nat.reduceMul, Nat.reduceLeDiff, Nat.reduceSub, Nat.reduceEqDiff, reduceCtorEq, reduceIte, ↓Opt.is, ↓Opt.no, ↓Asks.yes, ↓Asks.no, tyL, encL, hwn, List.length_map, asB]))
  by_cases hk : 0 ≤ k ∧ k < (q.atoms.length : Int)
  · have hbt : inB k 0 ((q.atoms.length : Int) - 1) = true := by unfold inB; simp; omega
    rw [hbt] at hib
    obtain ⟨p, rfl⟩ : ∃ p : Nat, k = (p : Int) := ⟨k.toNat, by omega⟩
    have hp : p < q.atoms.length := by omega
    have hp1 : (p ≤ q.atoms.length) = True := eq_true (by omega)
    have hp2 : (p + 1 ≤ q.atoms.length) = True := eq_true (by omega)
    have hw : IntKind.i64.wrap ((p : Int) + 1) = ((p + 1 : Nat) : Int) := by rw [IntKind.wrap_i64]; omega
    have hg0 : (0 ≤ (p : Int)) = True := eq_true (by omega)
    have hg1 : (0 ≤ ((p + 1 : Nat) : Int)) = True := eq_true (by omega)
    have hlen : (∀ e, e ∈ List.map encA q.atoms → e.length = 2) = True := eq_true (fun e he => by obtain ⟨x, _, rfl⟩ := List.mem_map.1 he; rfl)
    have hz : (0 ≤ p) = True := eq_true (Nat.zero_le _)
    refine ⟨_, hib, ?_⟩; (repeat (first | refine ap (by rfl : apartB 0 _ _ = true) ?_ | refine ap (by simp [osL, D.flat]) ?_)); repeat (first | refine aq ?_ | refine ap (by rfl : apartB 0 _ _ = true) ?_ | refine ak ?_ | refine ab ?_ | refine al ?_ | ((first | refine ar ?_ | refine ad ty_mix (by kernel_rfl) ?_ | refine ac ?_ | refine ae ?_ | with_reducible refine Later.mk ?_); simp only [evD, evL, iteL, St.said, St.asked, evStep, evOp, evP, St.init, St.app, srcStep, kill, setMany, loadS, fieldS, buildS, toks, Fin, upd_app, Array.isEmpty, Nat.reduceLT, Nat.reduceAdd, Nat.reduceMul, Nat.reduceLeDiff, Nat.reduceSub, Nat.reduceEqDiff, reduceCtorEq, reduceIte, ↓Opt.is, ↓Opt.no, ↓Asks.yes, ↓Asks.no, tyL, encL, hg0, hp1, hlen, hw, hg1, hp2, hz, Int.toNat_natCast, List.drop_zero, Option.isNone_none, if_true, asB]))
    have hl2 : ∀ e, e ∈ List.map encA q.atoms → e.length = 2 := fun e he => by obtain ⟨x, _, rfl⟩ := List.mem_map.1 he; rfl
    have ht : (List.take p (List.map encA q.atoms)).length = p := by rw [List.length_take, List.length_map]; omega
    have hd : (List.drop (p + 1) (List.map encA q.atoms)).length = q.atoms.length - (p + 1) := by rw [List.length_drop, List.length_map]
    have hta : List.take q.atoms.length (List.map encA q.atoms) = List.map encA q.atoms := by rw [List.take_of_length_le]; rw [List.length_map]; exact Nat.le_refl _
    have hr : (remP q.atoms (p : Int) q.atoms.length).map encA = List.take p (List.map encA q.atoms) ++ List.drop (p + 1) (List.map encA q.atoms) := by
      unfold remP
      rw [if_pos (by omega), List.take_length, Int.toNat_natCast, List.eraseIdx_eq_take_drop_succ, List.map_append, List.map_take, List.map_drop]
    refine ⟨fun e he => hl2 e (List.mem_of_mem_take he), false, (fun h => by cases h), Later.mk ?_⟩
    simp only [evD, evL, iteL, St.said, St.asked, evStep, evOp, evP, St.init, St.app, srcStep, kill, setMany, loadS, fieldS, buildS, toks, Fin, upd_app, Array.isEmpty, Nat.reduceLT, Nat.reduceAdd, Nat.reduceMul, Nat.reduceLeDiff, Nat.reduceSub, Nat.reduceEqDiff, reduceCtorEq, reduceIte, ↓Opt.is, ↓Opt.no, ↓Asks.yes, ↓Asks.no, tyL, encL, hg0, hp1, hlen, hw, hg1, hp2, hz, hta, Int.toNat_natCast, List.drop_zero, Option.isNone_none, if_true]
    refine ⟨by rw [ht]; simp only [maxLen]; omega, by rw [ht]; omega, ?_⟩
    simp only [evD, evL, iteL, St.said, St.asked, evStep, evOp, evP, St.init, St.app, srcStep, kill, setMany, loadS, fieldS, buildS, toks, Fin, upd_app, Array.isEmpty, Nat.reduceLT, Nat.reduceAdd, Nat.reduceMul, Nat.reduceLeDiff, Nat.reduceSub, Nat.reduceEqDiff, reduceCtorEq, reduceIte, ↓Opt.is, ↓Opt.no, ↓Asks.yes, ↓Asks.no, tyL, encL, Nat.le_refl, if_true]
    refine ⟨fun e he => hl2 e (List.mem_of_mem_drop he), false, (fun h => by cases h), Later.mk ?_⟩
    simp only [evD, evL, iteL, St.said, St.asked, evStep, evOp, evP, St.init, St.app, srcStep, kill, setMany, loadS, fieldS, buildS, toks, Fin, upd_app, Array.isEmpty, Nat.reduceLT, Nat.reduceAdd, Nat.reduceMul, Nat.reduceLeDiff, Nat.reduceSub, Nat.reduceEqDiff, reduceCtorEq, reduceIte, ↓Opt.is, ↓Opt.no, ↓Asks.yes, ↓Asks.no, tyL, encL]
    refine ⟨by simp only [List.length_nil, List.nil_append, ht, hd, maxLen]; omega, by simp only [List.length_nil, List.nil_append, ht, hd]; omega, ?_⟩
    repeat (first | refine aq ?_ | refine ap (by rfl : apartB 0 _ _ = true) ?_ | refine ak ?_ | refine ab ?_ | refine al ?_ | ((first | refine ar ?_ | refine ad ty_mix (by kernel_rfl) ?_ | refine ac ?_ | refine ae ?_ | with_reducible refine Later.mk ?_); simp only [evD, evL, iteL, St.said, St.asked, evStep, evOp, evP, St.init, St.app, srcStep, kill, setMany, loadS, fieldS, buildS, toks, Fin, upd_app, Array.isEmpty, Nat.reduceLT, Nat.reduceAdd, Nat.reduceMul, Nat.reduceLeDiff, Nat.reduceSub, Nat.reduceEqDiff, reduceCtorEq, reduceIte, ↓Opt.is, ↓Opt.no, ↓Asks.yes, ↓Asks.no, tyL, encL, asB]))
    refine Ab.ret ?_; simp only [evD, evL, iteL, St.said, St.asked, evStep, evOp, evP, St.init, St.app, srcStep, kill, setMany, loadS, fieldS, buildS, toks, Fin, upd_app, Array.isEmpty, Nat.reduceLT, Nat.reduceAdd, Nat.reduceMul, Nat.reduceLeDiff, Nat.reduceSub, Nat.reduceEqDiff, reduceCtorEq, reduceIte, ↓Opt.is, ↓Opt.no, ↓Asks.yes, ↓Asks.no, tyL, List.nodup_cons, encL, Try.f16, hr]
  · have hbt : inB k 0 ((q.atoms.length : Int) - 1) = false := by unfold inB; simp; omega
    have hr : remP q.atoms k q.atoms.length = q.atoms := by unfold remP; rw [if_neg hk, List.take_length]
    rw [hbt] at hib
    refine ⟨_, hib, ?_⟩; (repeat (first | refine ap (by rfl : apartB 0 _ _ = true) ?_ | refine ap (by simp [osL, D.flat]) ?_)); repeat (first | refine aq ?_ | refine ap (by rfl : apartB 0 _ _ = true) ?_ | refine ak ?_ | refine ab ?_ | refine al ?_ | ((first | refine ar ?_ | refine ad ty_mix (by kernel_rfl) ?_ | refine ac ?_ | refine ae ?_ | with_reducible refine Later.mk ?_); simp only [evD, evL, iteL, St.said, St.asked, evStep, evOp, evP, St.init, St.app, srcStep, kill, setMany, loadS, fieldS, buildS, toks, Fin, upd_app, Array.isEmpty, Nat.reduceLT, Nat.reduceAdd, Nat.reduceMul, Nat.reduceLeDiff, Nat.reduceSub, Nat.reduceEqDiff, reduceCtorEq, reduceIte, ↓Opt.is, ↓Opt.no, ↓Asks.yes, ↓Asks.no, tyL, encL, asB]))
    refine Ab.ret ?_; simp only [evD, evL, iteL, St.said, St.asked, evStep, evOp, evP, St.init, St.app, srcStep, kill, setMany, loadS, fieldS, buildS, toks, Fin, upd_app, Array.isEmpty, Nat.reduceLT, Nat.reduceAdd, Nat.reduceMul, Nat.reduceLeDiff, Nat.reduceSub, Nat.reduceEqDiff, reduceCtorEq, reduceIte, ↓Opt.is, ↓Opt.no, ↓Asks.yes, ↓Asks.no, tyL, List.nodup_cons, encL, Try.f16, hr]
end Go.Proofs.Ytgoofnhhhlncoaa.Ab

