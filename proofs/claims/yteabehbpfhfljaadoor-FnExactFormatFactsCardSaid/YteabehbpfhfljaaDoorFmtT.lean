/- Terms, relations, constraints as text. -/
import Derived.Test.YteabehbpfhfljaaDoorStr
import Derived.Test.YteabehbpfhfljaaDoorTerm
import Derived.Test.YteabehbpfhfljaaDoorIsx
import Derived.Test.YteabehbpfhfljaaDoorAbDb
open Go Go.Proofs Go.RowKit
namespace Go.Proofs.YteabehbpfhfljaaDoor.Ab
set_option linter.unusedSimpArgs false
set_option linter.unusedVariables false
set_option maxRecDepth 100000
def relS (x : Rel) : S := .a [.d (.v (.string x.name)), .d (.v (.int .i64 x.arity)), .d (.v (.int .i64 x.key))]
theorem rel_cut {x : Rel} (g : eRel.good x) {w : World} {K : Nat → Nat → Prop} {ov : Nat → Value} {v : Value} (hK : ∀ b o, K b o → b < w.heap.size) (hr : RdS w (ghA K ov) (relS x) v) :
    v = .agg #[.string x.name, .int .i64 x.arity, .int .i64 x.key] ∧ At cRel w x [.string x.name, .int .i64 x.arity, .int .i64 x.key] := by
  obtain ⟨vs, rfl, h⟩ := eRel.atA (x := x) g hK hr
  obtain ⟨rfl, h⟩ := cRel_open h
  exact ⟨rfl, h⟩
theorem implIsValidRelation_a {x : Rel} (g : eRel.good x) : AC Tryd.prog 80 [relS x] (.d (.v (.bool (validRel x)))) :=
  AC.plain Tryd.func80 rfl (by decide) rfl (fun w K cs ov hK hr => by
    simp only [RdSs] at hr
    obtain ⟨v0, _, rfl, q0, rfl⟩ := hr
    obtain ⟨rfl, h⟩ := rel_cut g hK q0
    exact implIsValidRelation_c h)
theorem specIsValidRelation_a {x : Rel} (g : eRel.good x) : AC Tryd.prog 73 [relS x] (.d (.v (.bool (validRel x)))) :=
  AC.plain Tryd.func73 rfl (by decide) rfl (fun w K cs ov hK hr => by
    simp only [RdSs] at hr
    obtain ⟨v0, _, rfl, q0, rfl⟩ := hr
    obtain ⟨rfl, h⟩ := rel_cut g hK q0
    exact specIsValidRelation_c h)
theorem validRel_facts {x : Rel} (h : validRel x = true) : x.name.size = 1 ∧ inR x.key ∧ inR x.arity := by
  unfold validRel inB at h
  simp only [Bool.and_eq_true, decide_eq_true_eq] at h
  refine ⟨?_, ⟨by omega, by omega⟩, ⟨by omega, by omega⟩⟩
  apply Decidable.byContradiction
  intro hn
  rw [validName_not hn] at h
  exact absurd h.1 (by simp)
def relB (x : Rel) : ByteArray := if validRel x = true then x.name ++ itoaB x.key ++ ⟨#[47]⟩ ++ itoaB x.arity else ⟨#[]⟩
theorem relFmt {x : Rel} (hd : validRel x = true) : (((x.name.size + (itoaB x.key).size : Nat) : Int) > IntKind.i64.max) = False ∧ ((((x.name ++ itoaB x.key).size + (⟨#[47]⟩ : ByteArray).size : Nat) : Int) > IntKind.i64.max) = False ∧ ((((x.name ++ itoaB x.key ++ ⟨#[47]⟩).size + (itoaB x.arity).size : Nat) : Int) > IntKind.i64.max) = False := by
  obtain ⟨h1, h2, h3⟩ := validRel_facts hd
  have h4 := itoaB_size h2
  have h5 := itoaB_size h3
  have e1 : (⟨#[47]⟩ : ByteArray).size = 1 := rfl
  exact ⟨addOk _ _ (by omega), addOk _ _ (by rw [ByteArray.size_append]; omega), addOk _ _ (by rw [ByteArray.size_append, ByteArray.size_append]; omega)⟩
theorem implFormatRelation_a {x : Rel} (g : eRel.good x) : AC Tryd.prog 42 [relS x] (.d (.v (.string (relB x)))) := by
  have hc := implIsValidRelation_a g
  unfold relB
  unfold relS at hc ⊢
  rcases Bool.eq_false_or_eq_true (validRel x) with hd | hd
  · obtain ⟨a1, a2, a3⟩ := relFmt hd
    obtain ⟨_, h2, h3⟩ := validRel_facts hd
    have hc2 := implFormatInt_a h2
    have hc3 := implFormatInt_a h3
    rw [hd] at hc ⊢
    rw [if_pos rfl]
    refine AC.intro Tryd.func42 rfl (by decide) (by simp [S.res, S.ress]) (by simp [S.os, S.oss]) (by simp [S.wfs, S.wf, dbS]) (by simp [Tryd.f42]) ?_; rw [Tryd.ntmps42]
    repeat (first | refine aq ?_ | refine ap (by rfl : apartB 0 _ _ = true) ?_ | refine ak ?_ | refine ab ?_ | refine al ?_ | ((first | refine ar ?_ | refine ad ty_mix (by kernel_rfl) ?_ | refine ac ?_ | refine ae ?_ | with_reducible refine Later.mk ?_); simp only [evD, evL, iteL, St.said, St.asked, evStep, evOp, evP, St.init, St.app, srcStep, kill, setMany, loadS, fieldS, buildS, toks, Fin, upd_app, Array.isEmpty, Nat.reduceLT, Nat.reduceAdd, Nat.reduceMul, Nat.reduceLeDiff, Nat.reduceSub, Nat.reduceEqDiff, reduceCtorEq, reduceIte, ↓Opt.is, ↓Opt.no, ↓Asks.yes, ↓Asks.no, tyL, encL, asB]))
    refine ⟨_, hc, ?_⟩; (repeat (first | refine ap (by rfl : apartB 0 _ _ = true) ?_ | refine ap (by simp [osL, D.flat]) ?_)); repeat (first | refine aq ?_ | refine ap (by rfl : apartB 0 _ _ = true) ?_ | refine ak ?_ | refine ab ?_ | refine al ?_ | ((first | refine ar ?_ | refine ad ty_mix (by kernel_rfl) ?_ | refine ac ?_ | refine ae ?_ | with_reducible refine Later.mk ?_); simp only [evD, evL, iteL, St.said, St.asked, evStep, evOp, evP, St.init, St.app, srcStep, kill, setMany, loadS, fieldS, buildS, toks, Fin, upd_app, Array.isEmpty, Nat.reduceLT, Nat.reduceAdd, Nat.reduceMul, Nat.reduceLeDiff, Nat.reduceSub, Nat.reduceEqDiff, reduceCtorEq, reduceIte, ↓Opt.is, ↓Opt.no, ↓Asks.yes, ↓Asks.no, tyL, encL, asB]))
    refine ⟨_, hc2, ?_⟩; (repeat (first | refine ap (by rfl : apartB 0 _ _ = true) ?_ | refine ap (by simp [osL, D.flat]) ?_)); repeat (first | refine aq ?_ | refine ap (by rfl : apartB 0 _ _ = true) ?_ | refine ak ?_ | refine ab ?_ | refine al ?_ | ((first | refine ar ?_ | refine ad ty_mix (by kernel_rfl) ?_ | refine ac ?_ | refine ae ?_ | with_reducible refine Later.mk ?_); simp only [evD, evL, iteL, St.said, St.asked, evStep, evOp, evP, St.init, St.app, srcStep, kill, setMany, loadS, fieldS, buildS, toks, Fin, upd_app, Array.isEmpty, Nat.reduceLT, Nat.reduceAdd, Nat.reduceMul, Nat.reduceLeDiff, Nat.reduceSub, Nat.reduceEqDiff, reduceCtorEq, reduceIte, ↓Opt.is, ↓Opt.no, ↓Asks.yes, ↓Asks.no, tyL, encL, a1, a2, a3, asB]))
    refine ⟨_, hc3, ?_⟩; (repeat (first | refine ap (by rfl : apartB 0 _ _ = true) ?_ | refine ap (by simp [osL, D.flat]) ?_)); repeat (first | refine aq ?_ | refine ap (by rfl : apartB 0 _ _ = true) ?_ | refine ak ?_ | refine ab ?_ | refine al ?_ | ((first | refine ar ?_ | refine ad ty_mix (by kernel_rfl) ?_ | refine ac ?_ | refine ae ?_ | with_reducible refine Later.mk ?_); simp only [evD, evL, iteL, St.said, St.asked, evStep, evOp, evP, St.init, St.app, srcStep, kill, setMany, loadS, fieldS, buildS, toks, Fin, upd_app, Array.isEmpty, Nat.reduceLT, Nat.reduceAdd, Nat.reduceMul, Nat.reduceLeDiff, Nat.reduceSub, Nat.reduceEqDiff, reduceCtorEq, reduceIte, ↓Opt.is, ↓Opt.no, ↓Asks.yes, ↓Asks.no, tyL, encL, a1, a2, a3, asB]))
    refine Ab.ret ?_; simp only [evD, evL, iteL, St.said, St.asked, evStep, evOp, evP, St.init, St.app, srcStep, kill, setMany, loadS, fieldS, buildS, toks, Fin, upd_app, Array.isEmpty, Nat.reduceLT, Nat.reduceAdd, Nat.reduceMul, Nat.reduceLeDiff, Nat.reduceSub, Nat.reduceEqDiff, reduceCtorEq, reduceIte, ↓Opt.is, ↓Opt.no, ↓Asks.yes, ↓Asks.no, tyL, List.nodup_cons, encL, Tryd.f42]
  · rw [hd] at hc ⊢
    rw [if_neg (by simp)]
    refine AC.intro Tryd.func42 rfl (by decide) (by simp [S.res, S.ress]) (by simp [S.os, S.oss]) (by simp [S.wfs, S.wf, dbS]) (by simp [Tryd.f42]) ?_; rw [Tryd.ntmps42]
    repeat (first | refine aq ?_ | refine ap (by rfl : apartB 0 _ _ = true) ?_ | refine ak ?_ | refine ab ?_ | refine al ?_ | ((first | refine ar ?_ | refine ad ty_mix (by kernel_rfl) ?_ | refine ac ?_ | refine ae ?_ | with_reducible refine Later.mk ?_); simp only [evD, evL, iteL, St.said, St.asked, evStep, evOp, evP, St.init, St.app, srcStep, kill, setMany, loadS, fieldS, buildS, toks, Fin, upd_app, Array.isEmpty, Nat.reduceLT, Nat.reduceAdd, Nat.reduceMul, Nat.reduceLeDiff, Nat.reduceSub, Nat.reduceEqDiff, reduceCtorEq, reduceIte, ↓Opt.is, ↓Opt.no, ↓Asks.yes, ↓Asks.no, tyL, encL, asB]))
    refine ⟨_, hc, ?_⟩; (repeat (first | refine ap (by rfl : apartB 0 _ _ = true) ?_ | refine ap (by simp [osL, D.flat]) ?_)); repeat (first | refine aq ?_ | refine ap (by rfl : apartB 0 _ _ = true) ?_ | refine ak ?_ | refine ab ?_ | refine al ?_ | ((first | refine ar ?_ | refine ad ty_mix (by kernel_rfl) ?_ | refine ac ?_ | refine ae ?_ | with_reducible refine Later.mk ?_); simp only [evD, evL, iteL, St.said, St.asked, evStep, evOp, evP, St.init, St.app, srcStep, kill, setMany, loadS, fieldS, buildS, toks, Fin, upd_app, Array.isEmpty, Nat.reduceLT, Nat.reduceAdd, Nat.reduceMul, Nat.reduceLeDiff, Nat.reduceSub, Nat.reduceEqDiff, reduceCtorEq, reduceIte, ↓Opt.is, ↓Opt.no, ↓Asks.yes, ↓Asks.no, tyL, encL, asB]))
    refine Ab.ret ?_; simp only [evD, evL, iteL, St.said, St.asked, evStep, evOp, evP, St.init, St.app, srcStep, kill, setMany, loadS, fieldS, buildS, toks, Fin, upd_app, Array.isEmpty, Nat.reduceLT, Nat.reduceAdd, Nat.reduceMul, Nat.reduceLeDiff, Nat.reduceSub, Nat.reduceEqDiff, reduceCtorEq, reduceIte, ↓Opt.is, ↓Opt.no, ↓Asks.yes, ↓Asks.no, tyL, List.nodup_cons, encL, Tryd.f42]
theorem specFormatRelation_a {x : Rel} (g : eRel.good x) : AC Tryd.prog 38 [relS x] (.d (.v (.string (relB x)))) := by
  have hc := specIsValidRelation_a g
  unfold relB
  unfold relS at hc ⊢
  rcases Bool.eq_false_or_eq_true (validRel x) with hd | hd
  · obtain ⟨a1, a2, a3⟩ := relFmt hd
    obtain ⟨_, h2, h3⟩ := validRel_facts hd
    have hc2 := specFormatInt_a h2
    have hc3 := specFormatInt_a h3
    rw [hd] at hc ⊢
    rw [if_pos rfl]
    refine AC.intro Tryd.func38 rfl (by decide) (by simp [S.res, S.ress]) (by simp [S.os, S.oss]) (by simp [S.wfs, S.wf, dbS]) (by simp [Tryd.f38]) ?_; rw [Tryd.ntmps38]
    repeat (first | refine aq ?_ | refine ap (by rfl : apartB 0 _ _ = true) ?_ | refine ak ?_ | refine ab ?_ | refine al ?_ | ((first | refine ar ?_ | refine ad ty_mix (by kernel_rfl) ?_ | refine ac ?_ | refine ae ?_ | with_reducible refine Later.mk ?_); simp only [evD, evL, iteL, St.said, St.asked, evStep, evOp, evP, St.init, St.app, srcStep, kill, setMany, loadS, fieldS, buildS, toks, Fin, upd_app, Array.isEmpty, Nat.reduceLT, Nat.reduceAdd, Nat.reduceMul, Nat.reduceLeDiff, Nat.reduceSub, Nat.reduceEqDiff, reduceCtorEq, reduceIte, ↓Opt.is, ↓Opt.no, ↓Asks.yes, ↓Asks.no, tyL, encL, asB]))
    refine ⟨_, hc, ?_⟩; (repeat (first | refine ap (by rfl : apartB 0 _ _ = true) ?_ | refine ap (by simp [osL, D.flat]) ?_)); repeat (first | refine aq ?_ | refine ap (by rfl : apartB 0 _ _ = true) ?_ | refine ak ?_ | refine ab ?_ | refine al ?_ | ((first | refine ar ?_ | refine ad ty_mix (by kernel_rfl) ?_ | refine ac ?_ | refine ae ?_ | with_reducible refine Later.mk ?_); simp only [evD, evL, iteL, St.said, St.asked, evStep, evOp, evP, St.init, St.app, srcStep, kill, setMany, loadS, fieldS, buildS, toks, Fin, upd_app, Array.isEmpty, Nat.reduceLT, Nat.reduceAdd, Nat.reduceMul, Nat.reduceLeDiff, Nat.reduceSub, Nat.reduceEqDiff, reduceCtorEq, reduceIte, ↓Opt.is, ↓Opt.no, ↓Asks.yes, ↓Asks.no, tyL, encL, asB]))
    refine ⟨_, hc2, ?_⟩; (repeat (first | refine ap (by rfl : apartB 0 _ _ = true) ?_ | refine ap (by simp [osL, D.flat]) ?_)); repeat (first | refine aq ?_ | refine ap (by rfl : apartB 0 _ _ = true) ?_ | refine ak ?_ | refine ab ?_ | refine al ?_ | ((first | refine ar ?_ | refine ad ty_mix (by kernel_rfl) ?_ | refine ac ?_ | refine ae ?_ | with_reducible refine Later.mk ?_); simp only [evD, evL, iteL, St.said, St.asked, evStep, evOp, evP, St.init, St.app, srcStep, kill, setMany, loadS, fieldS, buildS, toks, Fin, upd_app, Array.isEmpty, Nat.reduceLT, Nat.reduceAdd, Nat.reduceMul, Nat.reduceLeDiff, Nat.reduceSub, Nat.reduceEqDiff, reduceCtorEq, reduceIte, ↓Opt.is, ↓Opt.no, ↓Asks.yes, ↓Asks.no, tyL, encL, a1, a2, a3, asB]))
    refine ⟨_, hc3, ?_⟩; (repeat (first | refine ap (by rfl : apartB 0 _ _ = true) ?_ | refine ap (by simp [osL, D.flat]) ?_)); repeat (first | refine aq ?_ | refine ap (by rfl : apartB 0 _ _ = true) ?_ | refine ak ?_ | refine ab ?_ | refine al ?_ | ((first | refine ar ?_ | refine ad ty_mix (by kernel_rfl) ?_ | refine ac ?_ | refine ae ?_ | with_reducible refine Later.mk ?_); simp only [evD, evL, iteL, St.said, St.asked, evStep, evOp, evP, St.init, St.app, srcStep, kill, setMany, loadS, fieldS, buildS, toks, Fin, upd_app, Array.isEmpty, Nat.reduceLT, Nat.reduceAdd, Nat.reduceMul, Nat.reduceLeDiff, Nat.reduceSub, Nat.reduceEqDiff, reduceCtorEq, reduceIte, ↓Opt.is, ↓Opt.no, ↓Asks.yes, ↓Asks.no, tyL, encL, a1, a2, a3, asB]))
    refine Ab.ret ?_; simp only [evD, evL, iteL, St.said, St.asked, evStep, evOp, evP, St.init, St.app, srcStep, kill, setMany, loadS, fieldS, buildS, toks, Fin, upd_app, Array.isEmpty, Nat.reduceLT, Nat.reduceAdd, Nat.reduceMul, Nat.reduceLeDiff, Nat.reduceSub, Nat.reduceEqDiff, reduceCtorEq, reduceIte, ↓Opt.is, ↓Opt.no, ↓Asks.yes, ↓Asks.no, tyL, List.nodup_cons, encL, Tryd.f38]
  · rw [hd] at hc ⊢
    rw [if_neg (by simp)]
    refine AC.intro Tryd.func38 rfl (by decide) (by simp [S.res, S.ress]) (by simp [S.os, S.oss]) (by simp [S.wfs, S.wf, dbS]) (by simp [Tryd.f38]) ?_; rw [Tryd.ntmps38]
    repeat (first | refine aq ?_ | refine ap (by rfl : apartB 0 _ _ = true) ?_ | refine ak ?_ | refine ab ?_ | refine al ?_ | ((first | refine ar ?_ | refine ad ty_mix (by kernel_rfl) ?_ | refine ac ?_ | refine ae ?_ | with_reducible refine Later.mk ?_); simp only [evD, evL, iteL, St.said, St.asked, evStep, evOp, evP, St.init, St.app, srcStep, kill, setMany, loadS, fieldS, buildS, toks, Fin, upd_app, Array.isEmpty, Nat.reduceLT, Nat.reduceAdd, Nat.reduceMul, Nat.reduceLeDiff, Nat.reduceSub, Nat.reduceEqDiff, reduceCtorEq, reduceIte, ↓Opt.is, ↓Opt.no, ↓Asks.yes, ↓Asks.no, tyL, encL, asB]))
    refine ⟨_, hc, ?_⟩; (repeat (first | refine ap (by rfl : apartB 0 _ _ = true) ?_ | refine ap (by simp [osL, D.flat]) ?_)); repeat (first | refine aq ?_ | refine ap (by rfl : apartB 0 _ _ = true) ?_ | refine ak ?_ | refine ab ?_ | refine al ?_ | ((first | refine ar ?_ | refine ad ty_mix (by kernel_rfl) ?_ | refine ac ?_ | refine ae ?_ | with_reducible refine Later.mk ?_); simp only [evD, evL, iteL, St.said, St.asked, evStep, evOp, evP, St.init, St.app, srcStep, kill, setMany, loadS, fieldS, buildS, toks, Fin, upd_app, Array.isEmpty, Nat.reduceLT, Nat.reduceAdd, Nat.reduceMul, Nat.reduceLeDiff, Nat.reduceSub, Nat.reduceEqDiff, reduceCtorEq, reduceIte, ↓Opt.is, ↓Opt.no, ↓Asks.yes, ↓Asks.no, tyL, encL, asB]))
    refine Ab.ret ?_; simp only [evD, evL, iteL, St.said, St.asked, evStep, evOp, evP, St.init, St.app, srcStep, kill, setMany, loadS, fieldS, buildS, toks, Fin, upd_app, Array.isEmpty, Nat.reduceLT, Nat.reduceAdd, Nat.reduceMul, Nat.reduceLeDiff, Nat.reduceSub, Nat.reduceEqDiff, reduceCtorEq, reduceIte, ↓Opt.is, ↓Opt.no, ↓Asks.yes, ↓Asks.no, tyL, List.nodup_cons, encL, Tryd.f38]
theorem isValue_a (v : Int) : AC Tryd.prog 98 [.d (.v (.int .i64 v))] (.d (.v (.bool (inB v 0 9)))) := by
  refine AC.intro Tryd.func98 rfl (by decide) (by simp [S.res, S.ress]) (by simp [S.os, S.oss]) (by simp [S.wfs, S.wf, dbS]) (by simp [Tryd.f98]) ?_; rw [Tryd.ntmps98]
  unfold inB
  by_cases h1 : v ≥ 0
  · have h2 : 0 ≤ v := h1
    repeat (first | refine aq ?_ | refine ap (by rfl : apartB 0 _ _ = true) ?_ | refine ak ?_ | refine ab ?_ | refine al ?_ | ((first | refine ar ?_ | refine ad ty_mix (by kernel_rfl) ?_ | refine ac ?_ | refine ae ?_ | with_reducible refine Later.mk ?_); simp only [evD, evL, iteL, St.said, St.asked, evStep, evOp, evP, St.init, St.app, srcStep, kill, setMany, loadS, fieldS, buildS, toks, Fin, upd_app, Array.isEmpty, Nat.reduceLT, Nat.reduceAdd, Nat.reduceMul, Nat.reduceLeDiff, Nat.reduceSub, Nat.reduceEqDiff, reduceCtorEq, reduceIte, ↓Opt.is, ↓Opt.no, ↓Asks.yes, ↓Asks.no, tyL, encL, h1, asB]))
    refine Ab.ret ?_; simp only [evD, evL, iteL, St.said, St.asked, evStep, evOp, evP, St.init, St.app, srcStep, kill, setMany, loadS, fieldS, buildS, toks, Fin, upd_app, Array.isEmpty, Nat.reduceLT, Nat.reduceAdd, Nat.reduceMul, Nat.reduceLeDiff, Nat.reduceSub, Nat.reduceEqDiff, reduceCtorEq, reduceIte, ↓Opt.is, ↓Opt.no, ↓Asks.yes, ↓Asks.no, tyL, List.nodup_cons, encL, Tryd.f98, h1, h2]
  · have h2 : ¬ 0 ≤ v := h1
    repeat (first | refine aq ?_ | refine ap (by rfl : apartB 0 _ _ = true) ?_ | refine ak ?_ | refine ab ?_ | refine al ?_ | ((first | refine ar ?_ | refine ad ty_mix (by kernel_rfl) ?_ | refine ac ?_ | refine ae ?_ | with_reducible refine Later.mk ?_); simp only [evD, evL, iteL, St.said, St.asked, evStep, evOp, evP, St.init, St.app, srcStep, kill, setMany, loadS, fieldS, buildS, toks, Fin, upd_app, Array.isEmpty, Nat.reduceLT, Nat.reduceAdd, Nat.reduceMul, Nat.reduceLeDiff, Nat.reduceSub, Nat.reduceEqDiff, reduceCtorEq, reduceIte, ↓Opt.is, ↓Opt.no, ↓Asks.yes, ↓Asks.no, tyL, encL, h1, asB]))
    refine Ab.ret ?_; simp only [evD, evL, iteL, St.said, St.asked, evStep, evOp, evP, St.init, St.app, srcStep, kill, setMany, loadS, fieldS, buildS, toks, Fin, upd_app, Array.isEmpty, Nat.reduceLT, Nat.reduceAdd, Nat.reduceMul, Nat.reduceLeDiff, Nat.reduceSub, Nat.reduceEqDiff, reduceCtorEq, reduceIte, ↓Opt.is, ↓Opt.no, ↓Asks.yes, ↓Asks.no, tyL, List.nodup_cons, encL, Tryd.f98, h1, h2]
theorem wrapM1 {t : Int} (h : inR t) : IntKind.i64.wrap (-1 - t) = -1 - t := by
  obtain ⟨h1, h2⟩ := h
  rw [IntKind.wrap_i64]
  omega
def xyzw : ByteArray := ⟨#[120, 121, 122, 119]⟩
def termB (t : Int) : ByteArray := if termOk t = true then itoaB (-1 - t) else if 0 ≤ t ∧ t < 4 then xyzw.extract t.toNat (t.toNat + 1) else ⟨#[]⟩
theorem termOk_in {t : Int} (h : termOk t = true) : inR (-1 - t) := by
  unfold termOk inB at h
  simp only [Bool.and_eq_true, decide_eq_true_eq] at h
  exact ⟨by omega, by omega⟩
end Go.Proofs.YteabehbpfhfljaaDoor.Ab
