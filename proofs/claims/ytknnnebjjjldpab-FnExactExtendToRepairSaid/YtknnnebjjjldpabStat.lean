/- Chapters 7, 33: CountRepairs of the program, statistics. -/
import Derived.Test.YtknnnebjjjldpabAbDb
import Derived.Test.YtknnnebjjjldpabProd
open Go Go.Proofs Go.RowKit
namespace Go.Proofs.Ytknnnebjjjldpab.Ab
set_option linter.unusedSimpArgs false
set_option linter.unusedVariables false
set_option maxRecDepth 100000
theorem mulW_prod (l : List Int) (h : ∀ x, x ∈ l → 0 ≤ x ∧ x ≤ 14) (hl : l.length ≤ 14) : ∀ k, k ≤ l.length → (l.take k).foldl mulW 1 = prodP l k
  | 0, _ => rfl
  | k + 1, hk => by
    have hp := prodP_small l h (k + 1) hk hl
    rw [List.take_succ_eq_append_getElem (by omega), List.foldl_append, mulW_prod l h hl k (by omega)]
    rw [prodP_succ l k (by omega)] at hp ⊢
    show mulW _ _ = _
    unfold mulW
    rw [IntKind.wrap_i64]
    omega
theorem implCountRepairs_a {d : Dbs} (g : eDbs.good d) : AC Try.prog 85 [dbS d] (.d (.v (.int .i64 (countL d)))) := by
  have hm := mulW_prod (sizesL d) (sizesL_in d) (sizesL_len d) (sizesL d).length (Nat.le_refl _)
  rw [List.take_length] at hm
  have hv := implIsValidDatabase_a g
  refine AC.intro Try.func85 rfl (by decide) (by simp [S.res, S.ress]) (by simp [S.os, S.oss]) (by simp [S.wfs, S.wf, dbS]) (by simp [Try.f85]) ?_; rw [Try.ntmps85]
  unfold countL
  repeat (first | refine Ab.seq ?_ | refine ⟨(by rfl : apartB 0 _ _ = true), ?_⟩ | refine Ab.skip ?_ | refine Ab.block ?_ | refine Ab.label ?_ | ((first | refine Ab.region' ?_ | refine Ab.regionD' ty_mix (by kernel_rfl) ?_ | refine Ab.cond' ?_ | refine Ab.exit ?_ | with_reducible refine Later.mk ?_); simp only [evOps, St.said, St.asked, evStep, evOp, evP, constS, cell1, St.ev, St.init, initT, upd_app, St.app, St.put, upds, srcStep, kill, S.asL, S.toD, S.toDm, toDs, toDms, S.cells?, setMany, loadS, boundS, fieldS, partsS, fillS, buildS, ownIds, sameD, Ab.cut, S.argl, S.arg, S.readsl, S.reads, S.shift, S.shiftl, S.os, S.oss, toks, S.solid, S.solids, resS, resL, oneOf, finOk, finOkl, finIds, finIdl, Ends, Fin, thenS, inBlockS, St.step, Array.isEmpty, Nat.reduceLT, Nat.reduceAdd, Nat.reduceMul, Nat.reduceLeDiff, Nat.reduceSub, Nat.reduceEqDiff, reduceCtorEq, reduceIte, ↓Opt.is, ↓Opt.no, binV, ↓Asks.yes, ↓Asks.no, ite_true, ite_false, if_true, if_false, forall_const, implies_true, evL, tyL, encIs, encIss, encRs, encFs, encEs, encAs, encCs, encB, encR, encF, encE, encA, encC, dbS, asB]))
  rcases Bool.eq_false_or_eq_true (validDb d) with h | h <;> rw [h] at hv ⊢
  · refine ⟨_, hv, ?_⟩; (repeat (refine And.intro (by simp [S.os, S.oss, S.solid, S.solids, D.flat]) ?_)); repeat (first | refine Ab.seq ?_ | refine ⟨(by rfl : apartB 0 _ _ = true), ?_⟩ | refine Ab.skip ?_ | refine Ab.block ?_ | refine Ab.label ?_ | ((first | refine Ab.region' ?_ | refine Ab.regionD' ty_mix (by kernel_rfl) ?_ | refine Ab.cond' ?_ | refine Ab.exit ?_ | with_reducible refine Later.mk ?_); simp only [evOps, St.said, St.asked, evStep, evOp, evP, constS, cell1, St.ev, St.init, initT, upd_app, St.app, St.put, upds, srcStep, kill, S.asL, S.toD, S.toDm, toDs, toDms, S.cells?, setMany, loadS, boundS, fieldS, partsS, fillS, buildS, ownIds, sameD, Ab.cut, S.argl, S.arg, S.readsl, S.reads, S.shift, S.shiftl, S.os, S.oss, toks, S.solid, S.solids, resS, resL, oneOf, finOk, finOkl, finIds, finIdl, Ends, Fin, thenS, inBlockS, St.step, Array.isEmpty, Nat.reduceLT, Nat.reduceAdd, Nat.reduceMul, Nat.reduceLeDiff, Nat.reduceSub, Nat.reduceEqDiff, reduceCtorEq, reduceIte, ↓Opt.is, ↓Opt.no, binV, ↓Asks.yes, ↓Asks.no, ite_true, ite_false, if_true, if_false, forall_const, implies_true, evL, tyL, encIs, encIss, encRs, encFs, encEs, encAs, encCs, encB, encR, encF, encE, encA, encC, dbS, asB]))
    refine ⟨_, implBlockSizes_a g, ?_⟩; (repeat (refine And.intro (by simp [S.os, S.oss, S.solid, S.solids, D.flat]) ?_)); repeat (first | refine Ab.seq ?_ | refine ⟨(by rfl : apartB 0 _ _ = true), ?_⟩ | refine Ab.skip ?_ | refine Ab.block ?_ | refine Ab.label ?_ | ((first | refine Ab.region' ?_ | refine Ab.regionD' ty_mix (by kernel_rfl) ?_ | refine Ab.cond' ?_ | refine Ab.exit ?_ | with_reducible refine Later.mk ?_); simp only [evOps, St.said, St.asked, evStep, evOp, evP, constS, cell1, St.ev, St.init, initT, upd_app, St.app, St.put, upds, srcStep, kill, S.asL, S.toD, S.toDm, toDs, toDms, S.cells?, setMany, loadS, boundS, fieldS, partsS, fillS, buildS, ownIds, sameD, Ab.cut, S.argl, S.arg, S.readsl, S.reads, S.shift, S.shiftl, S.os, S.oss, toks, S.solid, S.solids, resS, resL, oneOf, finOk, finOkl, finIds, finIdl, Ends, Fin, thenS, inBlockS, St.step, Array.isEmpty, Nat.reduceLT, Nat.reduceAdd, Nat.reduceMul, Nat.reduceLeDiff, Nat.reduceSub, Nat.reduceEqDiff, reduceCtorEq, reduceIte, ↓Opt.is, ↓Opt.no, binV, ↓Asks.yes, ↓Asks.no, ite_true, ite_false, if_true, if_false, forall_const, implies_true, evL, tyL, encIs, encIss, encRs, encFs, encEs, encAs, encCs, encB, encR, encF, encE, encA, encC, dbS, asB]))
    refine ⟨_, product_a (sizesL d) (Nat.le_trans (sizesL_len d) (by decide)), ?_⟩; (repeat (refine And.intro (by simp [S.os, S.oss, S.solid, S.solids, D.flat]) ?_)); repeat (first | refine Ab.seq ?_ | refine ⟨(by rfl : apartB 0 _ _ = true), ?_⟩ | refine Ab.skip ?_ | refine Ab.block ?_ | refine Ab.label ?_ | ((first | refine Ab.region' ?_ | refine Ab.regionD' ty_mix (by kernel_rfl) ?_ | refine Ab.cond' ?_ | refine Ab.exit ?_ | with_reducible refine Later.mk ?_); simp only [evOps, St.said, St.asked, evStep, evOp, evP, constS, cell1, St.ev, St.init, initT, upd_app, St.app, St.put, upds, srcStep, kill, S.asL, S.toD, S.toDm, toDs, toDms, S.cells?, setMany, loadS, boundS, fieldS, partsS, fillS, buildS, ownIds, sameD, Ab.cut, S.argl, S.arg, S.readsl, S.reads, S.shift, S.shiftl, S.os, S.oss, toks, S.solid, S.solids, resS, resL, oneOf, finOk, finOkl, finIds, finIdl, Ends, Fin, thenS, inBlockS, St.step, Array.isEmpty, Nat.reduceLT, Nat.reduceAdd, Nat.reduceMul, Nat.reduceLeDiff, Nat.reduceSub, Nat.reduceEqDiff, reduceCtorEq, reduceIte, ↓Opt.is, ↓Opt.no, binV, ↓Asks.yes, ↓Asks.no, ite_true, ite_false, if_true, if_false, forall_const, implies_true, evL, tyL, encIs, encIss, encRs, encFs, encEs, encAs, encCs, encB, encR, encF, encE, encA, encC, dbS, asB]))
    refine Ab.ret ?_; simp only [evOps, St.said, St.asked, evStep, evOp, evP, constS, cell1, St.ev, St.init, initT, upd_app, St.app, St.put, upds, srcStep, kill, S.asL, S.toD, S.toDm, toDs, toDms, S.cells?, setMany, loadS, boundS, fieldS, partsS, fillS, buildS, ownIds, sameD, Ab.cut, S.argl, S.arg, S.readsl, S.reads, S.shift, S.shiftl, S.os, S.oss, toks, S.solid, S.solids, resS, resL, oneOf, finOk, finOkl, finIds, finIdl, Ends, Fin, thenS, inBlockS, St.step, Array.isEmpty, Nat.reduceLT, Nat.reduceAdd, Nat.reduceMul, Nat.reduceLeDiff, Nat.reduceSub, Nat.reduceEqDiff, reduceCtorEq, reduceIte, ↓Opt.is, ↓Opt.no, binV, ↓Asks.yes, ↓Asks.no, ite_true, ite_false, if_true, if_false, forall_const, implies_true, evL, tyL, List.nodup_cons, encIs, encIss, encRs, encFs, encEs, encAs, encCs, encB, encR, encF, encE, encA, encC, dbS, Try.f85]
    rw [hm]
  · refine ⟨_, hv, ?_⟩; (repeat (refine And.intro (by simp [S.os, S.oss, S.solid, S.solids, D.flat]) ?_)); repeat (first | refine Ab.seq ?_ | refine ⟨(by rfl : apartB 0 _ _ = true), ?_⟩ | refine Ab.skip ?_ | refine Ab.block ?_ | refine Ab.label ?_ | ((first | refine Ab.region' ?_ | refine Ab.regionD' ty_mix (by kernel_rfl) ?_ | refine Ab.cond' ?_ | refine Ab.exit ?_ | with_reducible refine Later.mk ?_); simp only [evOps, St.said, St.asked, evStep, evOp, evP, constS, cell1, St.ev, St.init, initT, upd_app, St.app, St.put, upds, srcStep, kill, S.asL, S.toD, S.toDm, toDs, toDms, S.cells?, setMany, loadS, boundS, fieldS, partsS, fillS, buildS, ownIds, sameD, Ab.cut, S.argl, S.arg, S.readsl, S.reads, S.shift, S.shiftl, S.os, S.oss, toks, S.solid, S.solids, resS, resL, oneOf, finOk, finOkl, finIds, finIdl, Ends, Fin, thenS, inBlockS, St.step, Array.isEmpty, Nat.reduceLT, Nat.reduceAdd, Nat.reduceMul, Nat.reduceLeDiff, Nat.reduceSub, Nat.reduceEqDiff, reduceCtorEq, reduceIte, ↓Opt.is, ↓Opt.no, binV, ↓Asks.yes, ↓Asks.no, ite_true, ite_false, if_true, if_false, forall_const, implies_true, evL, tyL, encIs, encIss, encRs, encFs, encEs, encAs, encCs, encB, encR, encF, encE, encA, encC, dbS, asB]))
    refine Ab.ret ?_; simp only [evOps, St.said, St.asked, evStep, evOp, evP, constS, cell1, St.ev, St.init, initT, upd_app, St.app, St.put, upds, srcStep, kill, S.asL, S.toD, S.toDm, toDs, toDms, S.cells?, setMany, loadS, boundS, fieldS, partsS, fillS, buildS, ownIds, sameD, Ab.cut, S.argl, S.arg, S.readsl, S.reads, S.shift, S.shiftl, S.os, S.oss, toks, S.solid, S.solids, resS, resL, oneOf, finOk, finOkl, finIds, finIdl, Ends, Fin, thenS, inBlockS, St.step, Array.isEmpty, Nat.reduceLT, Nat.reduceAdd, Nat.reduceMul, Nat.reduceLeDiff, Nat.reduceSub, Nat.reduceEqDiff, reduceCtorEq, reduceIte, ↓Opt.is, ↓Opt.no, binV, ↓Asks.yes, ↓Asks.no, ite_true, ite_false, if_true, if_false, forall_const, implies_true, evL, tyL, List.nodup_cons, encIs, encIss, encRs, encFs, encEs, encAs, encCs, encB, encR, encF, encE, encA, encC, dbS, Try.f85]
theorem specCountRepairs_a {d : Dbs} (g : eDbs.good d) : AC Try.prog 82 [dbS d] (.d (.v (.int .i64 (countL d)))) :=
  AC.plain Try.func82 rfl (by decide) rfl (fun w K cs ov hK hr => by
    simp only [RdSs] at hr
    obtain ⟨v, _, rfl, h, rfl⟩ := hr
    obtain ⟨a0, c0, a1, c1, rfl, h0⟩ := db_cut g hK h
    exact specCountRepairs_o h0)
def stN (l : List Int) : Int := ((l.filter fun x => decide (1 < x)).length : Int)
def stM (l : List Int) : Int := (l.map fun x => x - 1).sum
theorem stN_step (l : List Int) (i : Nat) (h : i < l.length) : stN (l.take (i + 1)) = stN (l.take i) + if 1 < l[i] then 1 else 0 := by
  unfold stN
  rw [List.take_succ_eq_append_getElem h, List.filter_append, List.length_append]
  by_cases h1 : 1 < l[i] <;> simp [h1]
theorem stM_step (l : List Int) (i : Nat) (h : i < l.length) : stM (l.take (i + 1)) = stM (l.take i) + (l[i] - 1) := by
  unfold stM
  rw [List.take_succ_eq_append_getElem h, List.map_append, List.sum_append]
  simp
theorem st_bnd (l : List Int) (hx : ∀ x, x ∈ l → 1 ≤ x ∧ x ≤ 14) : ∀ i, i ≤ l.length → 0 ≤ stN (l.take i) ∧ stN (l.take i) ≤ i ∧ 0 ≤ stM (l.take i) ∧ stM (l.take i) ≤ 13 * i
  | 0, _ => by simp [stN, stM]
  | i + 1, h => by
    have ih := st_bnd l hx i (by omega)
    have := hx l[i] (List.getElem_mem (by omega))
    rw [stN_step l i h, stM_step l i h]
    split <;> omega
theorem sizesL_pos (d : Dbs) : ∀ x, x ∈ sizesL d → 1 ≤ x ∧ x ≤ 14 := by
  intro x hx
  have h2 := sizesL_in d x hx
  obtain ⟨b, hb, rfl⟩ := List.mem_map.1 hx
  refine ⟨?_, h2.2⟩
  unfold blocksL at hb
  split at hb
  · rename_i hv
    obtain ⟨c, hc, rfl⟩ := List.mem_map.1 hb
    have := blks_pos (conv_db hv) (Nat.le_refl _) hc
    unfold ints
    rw [List.length_map]
    omega
  · cases hb
def incL (d : Dbs) : Int := if d.facts.length = 0 then 0 else (100 * ((confL d).length : Int)).tdiv d.facts.length
theorem confL_14 (d : Dbs) : (confL d).length ≤ 14 := by
  unfold confL
  split
  · rename_i h
    have h14 := dbValid_len h
    unfold confPart ints
    rw [List.length_map]
    exact Nat.le_trans (List.length_filter_le _ _) (by simpa using h14)
  · simp
theorem incL_wrap (d : Dbs) (h : d.facts.length ≠ 0) : IntKind.i64.wrap ((IntKind.i64.wrap (100 * ((confL d).length : Int))).tdiv (d.facts.length : Int)) = incL d := by
  have h1 := confL_14 d
  unfold incL
  rw [if_neg h]
  have e : IntKind.i64.wrap (100 * ((confL d).length : Int)) = 100 * ((confL d).length : Int) := by rw [IntKind.wrap_i64]; omega
  rw [e, Int.tdiv_eq_ediv_of_nonneg (by omega)]
  have h2 := Int.ediv_le_self (a := 100 * ((confL d).length : Int)) (b := (d.facts.length : Int)) (by omega)
  have h3 : 0 ≤ 100 * ((confL d).length : Int) / (d.facts.length : Int) := Int.ediv_nonneg (by omega) (by omega)
  rw [IntKind.wrap_i64]
  omega
end Go.Proofs.Ytknnnebjjjldpab.Ab
