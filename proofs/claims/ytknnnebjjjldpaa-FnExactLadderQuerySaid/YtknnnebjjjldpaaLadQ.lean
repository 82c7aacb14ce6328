/- Chapter 33: the ladder's query. -/
import Derived.Test.YtknnnebjjjldpaaAbSel
import Derived.Test.YtknnnebjjjldpaaMarkK
open Go Go.Proofs Go.RowKit
namespace Go.Proofs.Ytknnnebjjjldpaa.Ab
set_option linter.unusedSimpArgs false
set_option linter.unusedVariables false
set_option maxRecDepth 100000
def ladQ : Qry := ⟨2, [⟨0, [0, 1]⟩, ⟨1, [1, 0]⟩], []⟩
theorem implLadderQuery_a : AC Try.prog 31 [] (.a [.d (.v (.int .i64 2)), .o 0 (encAs ladQ.atoms), .o 1 (encIs ladQ.free)]) := by
  refine AC.intro Try.func31 rfl (by decide) (by simp [S.res, S.ress]) (by simp [S.os, S.oss]) (by simp [S.wfs, S.wf, dbS]) (by simp [Try.f31]) ?_; rw [Try.ntmps31]
  repeat (first | refine Ab.seq ?_ | refine ⟨(by rfl : apartB 0 _ _ = true), ?_⟩ | refine Ab.skip ?_ | refine Ab.block ?_ | refine Ab.label ?_ | ((first | refine Ab.region' ?_ | refine Ab.regionD' ty_mix (by kernel_rfl) ?_ | refine Ab.cond' ?_ | refine Ab.exit ?_ | with_reducible refine Later.mk ?_); simp only [evOps, St.said, St.asked, evStep, evOp, evP, constS, cell1, St.ev, St.init, initT, upd_app, St.app, St.put, upds, srcStep, kill, S.asL, S.toD, S.toDm, toDs, toDms, S.cells?, setMany, loadS, boundS, fieldS, partsS, fillS, buildS, ownIds, sameD, Ab.cut, S.argl, S.arg, S.readsl, S.reads, S.shift, S.shiftl, S.os, S.oss, toks, S.solid, S.solids, resS, resL, oneOf, finOk, finOkl, finIds, finIdl, Ends, Fin, thenS, inBlockS, St.step, Array.isEmpty, Nat.reduceLT, Nat.reduceAdd, Nat.reduceMul, Nat.reduceLeDiff, Nat.reduceSub, Nat.reduceEqDiff, reduceCtorEq, reduceIte, ↓Opt.is, ↓Opt.no, binV, ↓Asks.yes, ↓Asks.no, ite_true, ite_false, if_true, if_false, forall_const, implies_true, evL, tyL, encIs, encIss, encRs, encFs, encEs, encAs, encCs, encB, encR, encF, encE, encA, encC, dbS, asB]))
  refine ⟨⟨⟨_, _, _, _, rfl, rfl⟩, ⟨_, _, _, _, rfl, rfl⟩⟩, by decide, ?_⟩
  refine Ab.ret ?_; simp only [evOps, St.said, St.asked, evStep, evOp, evP, constS, cell1, St.ev, St.init, initT, upd_app, St.app, St.put, upds, srcStep, kill, S.asL, S.toD, S.toDm, toDs, toDms, S.cells?, setMany, loadS, boundS, fieldS, partsS, fillS, buildS, ownIds, sameD, Ab.cut, S.argl, S.arg, S.readsl, S.reads, S.shift, S.shiftl, S.os, S.oss, toks, S.solid, S.solids, resS, resL, oneOf, finOk, finOkl, finIds, finIdl, Ends, Fin, thenS, inBlockS, St.step, Array.isEmpty, Nat.reduceLT, Nat.reduceAdd, Nat.reduceMul, Nat.reduceLeDiff, Nat.reduceSub, Nat.reduceEqDiff, reduceCtorEq, reduceIte, ↓Opt.is, ↓Opt.no, binV, ↓Asks.yes, ↓Asks.no, ite_true, ite_false, if_true, if_false, forall_const, implies_true, evL, tyL, List.nodup_cons, encIs, encIss, encRs, encFs, encEs, encAs, encCs, encB, encR, encF, encE, encA, encC, dbS, Try.f31, ladQ]

  exact ⟨⟨_, _, rfl⟩, rfl⟩
theorem specLadderQuery_a : AC Try.prog 30 [] (.a [.d (.v (.int .i64 2)), .o 0 (encAs ladQ.atoms), .o 1 (encIs ladQ.free)]) := by
  refine AC.intro Try.func30 rfl (by decide) (by simp [S.res, S.ress]) (by simp [S.os, S.oss]) (by simp [S.wfs, S.wf, dbS]) (by simp [Try.f30]) ?_; rw [Try.ntmps30]
  repeat (first | refine Ab.seq ?_ | refine ⟨(by rfl : apartB 0 _ _ = true), ?_⟩ | refine Ab.skip ?_ | refine Ab.block ?_ | refine Ab.label ?_ | ((first | refine Ab.region' ?_ | refine Ab.regionD' ty_mix (by kernel_rfl) ?_ | refine Ab.cond' ?_ | refine Ab.exit ?_ | with_reducible refine Later.mk ?_); simp only [evOps, St.said, St.asked, evStep, evOp, evP, constS, cell1, St.ev, St.init, initT, upd_app, St.app, St.put, upds, srcStep, kill, S.asL, S.toD, S.toDm, toDs, toDms, S.cells?, setMany, loadS, boundS, fieldS, partsS, fillS, buildS, ownIds, sameD, Ab.cut, S.argl, S.arg, S.readsl, S.reads, S.shift, S.shiftl, S.os, S.oss, toks, S.solid, S.solids, resS, resL, oneOf, finOk, finOkl, finIds, finIdl, Ends, Fin, thenS, inBlockS, St.step, Array.isEmpty, Nat.reduceLT, Nat.reduceAdd, Nat.reduceMul, Nat.reduceLeDiff, Nat.reduceSub, Nat.reduceEqDiff, reduceCtorEq, reduceIte, ↓Opt.is, ↓Opt.no, binV, ↓Asks.yes, ↓Asks.no, ite_true, ite_false, if_true, if_false, forall_const, implies_true, evL, tyL, encIs, encIss, encRs, encFs, encEs, encAs, encCs, encB, encR, encF, encE, encA, encC, dbS, asB]))
  refine ⟨⟨⟨_, _, _, _, rfl, rfl⟩, ⟨_, _, _, _, rfl, rfl⟩⟩, by decide, ?_⟩
  refine Ab.ret ?_; simp only [evOps, St.said, St.asked, evStep, evOp, evP, constS, cell1, St.ev, St.init, initT, upd_app, St.app, St.put, upds, srcStep, kill, S.asL, S.toD, S.toDm, toDs, toDms, S.cells?, setMany, loadS, boundS, fieldS, partsS, fillS, buildS, ownIds, sameD, Ab.cut, S.argl, S.arg, S.readsl, S.reads, S.shift, S.shiftl, S.os, S.oss, toks, S.solid, S.solids, resS, resL, oneOf, finOk, finOkl, finIds, finIdl, Ends, Fin, thenS, inBlockS, St.step, Array.isEmpty, Nat.reduceLT, Nat.reduceAdd, Nat.reduceMul, Nat.reduceLeDiff, Nat.reduceSub, Nat.reduceEqDiff, reduceCtorEq, reduceIte, ↓Opt.is, ↓Opt.no, binV, ↓Asks.yes, ↓Asks.no, ite_true, ite_false, if_true, if_false, forall_const, implies_true, evL, tyL, List.nodup_cons, encIs, encIss, encRs, encFs, encEs, encAs, encCs, encB, encR, encF, encE, encA, encC, dbS, Try.f30, ladQ]

  exact ⟨⟨_, _, rfl⟩, rfl⟩
theorem inR_lit {x : Int} (h : 0 ≤ x ∧ x ≤ 9) : inR x := by unfold inR; omega
theorem lit_good {x y : Int} (h : 0 ≤ x ∧ x ≤ 9) (h2 : 0 ≤ y ∧ y ≤ 9) : (eSlice eInt).good [x, y] := by
  refine ⟨by show (2 : Nat) ≤ maxLen; decide, fun z hz => ?_⟩
  rcases List.mem_cons.1 hz with rfl | hz
  · exact inR_lit h
  · rcases List.mem_cons.1 hz with rfl | hz
    · exact inR_lit h2
    · cases hz
theorem ladQ_good : eQry.good ladQ := by
  refine ⟨inR_lit (by decide), ⟨by decide, fun z hz => ?_⟩, ⟨Nat.zero_le _, fun z hz => by cases hz⟩⟩
  rcases List.mem_cons.1 hz with rfl | hz
  · exact ⟨inR_lit (by decide), lit_good (by decide) (by decide)⟩
  · rcases List.mem_cons.1 hz with rfl | hz
    · exact ⟨inR_lit (by decide), lit_good (by decide) (by decide)⟩
    · cases hz
end Go.Proofs.Ytknnnebjjjldpaa.Ab

