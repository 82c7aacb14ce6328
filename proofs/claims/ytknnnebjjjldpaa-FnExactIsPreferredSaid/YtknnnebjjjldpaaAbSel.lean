/- Chapters 4, 5, 7: copies, SelectFacts, partial repairs, repairs. -/
import Derived.Test.YtknnnebjjjldpaaAbDb
import Derived.Test.YtknnnebjjjldpaaAbGen
import Derived.Test.YtknnnebjjjldpaaRepP
import Derived.Test.YtknnnebjjjldpaaIn4
open Go Go.Proofs Go.RowKit
namespace Go.Proofs.Ytknnnebjjjldpaa.Ab
set_option linter.unusedSimpArgs false
set_option linter.unusedVariables false
set_option maxRecDepth 100000
theorem copyInts_a (l : List Int) (hl : l.length ≤ 1048576) : AC Try.prog 61 [.d (encIs l)] (.o 0 (encIs l)) := by
  refine AC.intro Try.func61 rfl (by decide) (by simp [S.res, S.ress]) (by simp [S.os, S.oss]) (by simp [S.wfs, S.wf, dbS]) (by simp [Try.f61]) ?_; rw [Try.ntmps61]
  repeat (first | refine Ab.seq ?_ | refine ⟨(by rfl : apartB 0 _ _ = true), ?_⟩ | refine Ab.skip ?_ | refine Ab.block ?_ | refine Ab.label ?_ | ((first | refine Ab.region' ?_ | refine Ab.regionD' ty_mix (by kernel_rfl) ?_ | refine Ab.cond' ?_ | refine Ab.exit ?_ | with_reducible refine Later.mk ?_); simp only [evOps, St.said, St.asked, evStep, evOp, evP, constS, cell1, St.ev, St.init, initT, upd_app, St.app, St.put, upds, srcStep, kill, S.asL, S.toD, S.toDm, toDs, toDms, S.cells?, setMany, loadS, boundS, fieldS, partsS, fillS, buildS, ownIds, sameD, Ab.cut, S.argl, S.arg, S.readsl, S.reads, S.shift, S.shiftl, S.os, S.oss, toks, S.solid, S.solids, resS, resL, oneOf, finOk, finOkl, finIds, finIdl, Ends, Fin, thenS, inBlockS, St.step, Array.isEmpty, Nat.reduceLT, Nat.reduceAdd, Nat.reduceMul, Nat.reduceLeDiff, Nat.reduceSub, Nat.reduceEqDiff, reduceCtorEq, reduceIte, ↓Opt.is, ↓Opt.no, binV, ↓Asks.yes, ↓Asks.no, ite_true, ite_false, if_true, if_false, forall_const, implies_true, evL, tyL, encIs, encIss, encRs, encFs, encEs, encAs, encCs, encB, encR, encF, encE, encA, encC, dbS, asB]))
  refine ⟨encIs_len l, true, fun _ => encIs_flat l, Later.mk ?_⟩
  simp only [evOps, St.said, St.asked, evStep, evOp, evP, constS, cell1, St.ev, St.init, initT, upd_app, St.app, St.put, upds, srcStep, kill, S.asL, S.toD, S.toDm, toDs, toDms, S.cells?, setMany, loadS, boundS, fieldS, partsS, fillS, buildS, ownIds, sameD, Ab.cut, S.argl, S.arg, S.readsl, S.reads, S.shift, S.shiftl, S.os, S.oss, toks, S.solid, S.solids, resS, resL, oneOf, finOk, finOkl, finIds, finIdl, Ends, Fin, thenS, inBlockS, St.step, Array.isEmpty, Nat.reduceLT, Nat.reduceAdd, Nat.reduceMul, Nat.reduceLeDiff, Nat.reduceSub, Nat.reduceEqDiff, reduceCtorEq, reduceIte, ↓Opt.is, ↓Opt.no, binV, ↓Asks.yes, ↓Asks.no, ite_true, ite_false, if_true, if_false, forall_const, implies_true, evL, tyL, encIs, encIss, encRs, encFs, encEs, encAs, encCs, encB, encR, encF, encE, encA, encC, dbS]
  refine ⟨by simp only [maxLen]; omega, by omega, ?_⟩
  repeat (first | refine Ab.seq ?_ | refine ⟨(by rfl : apartB 0 _ _ = true), ?_⟩ | refine Ab.skip ?_ | refine Ab.block ?_ | refine Ab.label ?_ | ((first | refine Ab.region' ?_ | refine Ab.regionD' ty_mix (by kernel_rfl) ?_ | refine Ab.cond' ?_ | refine Ab.exit ?_ | with_reducible refine Later.mk ?_); simp only [evOps, St.said, St.asked, evStep, evOp, evP, constS, cell1, St.ev, St.init, initT, upd_app, St.app, St.put, upds, srcStep, kill, S.asL, S.toD, S.toDm, toDs, toDms, S.cells?, setMany, loadS, boundS, fieldS, partsS, fillS, buildS, ownIds, sameD, Ab.cut, S.argl, S.arg, S.readsl, S.reads, S.shift, S.shiftl, S.os, S.oss, toks, S.solid, S.solids, resS, resL, oneOf, finOk, finOkl, finIds, finIdl, Ends, Fin, thenS, inBlockS, St.step, Array.isEmpty, Nat.reduceLT, Nat.reduceAdd, Nat.reduceMul, Nat.reduceLeDiff, Nat.reduceSub, Nat.reduceEqDiff, reduceCtorEq, reduceIte, ↓Opt.is, ↓Opt.no, binV, ↓Asks.yes, ↓Asks.no, ite_true, ite_false, if_true, if_false, forall_const, implies_true, evL, tyL, encIs, encIss, encRs, encFs, encEs, encAs, encCs, encB, encR, encF, encE, encA, encC, dbS, asB]))
  refine Ab.ret ?_; simp only [evOps, St.said, St.asked, evStep, evOp, evP, constS, cell1, St.ev, St.init, initT, upd_app, St.app, St.put, upds, srcStep, kill, S.asL, S.toD, S.toDm, toDs, toDms, S.cells?, setMany, loadS, boundS, fieldS, partsS, fillS, buildS, ownIds, sameD, Ab.cut, S.argl, S.arg, S.readsl, S.reads, S.shift, S.shiftl, S.os, S.oss, toks, S.solid, S.solids, resS, resL, oneOf, finOk, finOkl, finIds, finIdl, Ends, Fin, thenS, inBlockS, St.step, Array.isEmpty, Nat.reduceLT, Nat.reduceAdd, Nat.reduceMul, Nat.reduceLeDiff, Nat.reduceSub, Nat.reduceEqDiff, reduceCtorEq, reduceIte, ↓Opt.is, ↓Opt.no, binV, ↓Asks.yes, ↓Asks.no, ite_true, ite_false, if_true, if_false, forall_const, implies_true, evL, tyL, List.nodup_cons, encIs, encIss, encRs, encFs, encEs, encAs, encCs, encB, encR, encF, encE, encA, encC, dbS, Try.f61]
  exact ⟨_, _, rfl⟩
theorem encRs_len (l : List Rel) : ∀ e, e ∈ l.map encR → e.length = 3 := by
  intro e he
  obtain ⟨x, _, rfl⟩ := List.mem_map.1 he
  rfl
theorem encRs_flat (l : List Rel) : ∀ e, e ∈ l.map encR → ∀ d, d ∈ e → d.flat := by
  intro e he d hd
  obtain ⟨x, _, rfl⟩ := List.mem_map.1 he
  simp [encR] at hd
  rcases hd with rfl | rfl | rfl <;> trivial
theorem vld_vals {d : Dbs} (h : validDb d = true) (k : Nat) (hk : k < d.facts.length) : d.facts[k].vals.length ≤ 3 := by
  obtain ⟨_, _, _, _, _, _, h3, _⟩ := validFact_key (dbValid_fact h k hk)
  exact h3
theorem vld_rels {d : Dbs} (h : validDb d = true) : d.rels.length ≤ 4 := by
  unfold validDb at h
  simp only [Bool.and_eq_true] at h
  exact validRels_len h.2.1
theorem vld_facts {d : Dbs} (h : validDb d = true) : d.facts.length ≤ 14 := dbValid_len h
theorem selD_good {d : Dbs} (g : eDbs.good d) (l : List Int) : eDbs.good (selD d l) := by
  unfold selD
  split
  · rename_i h
    unfold selOk at h
    simp only [Bool.and_eq_true] at h
    refine ⟨g.1, ?_, fun x hx => ?_⟩
    · have h1 := selF_len d l (setIx_in h.2)
      have h2 := setIx_len h.2
      have h3 := vld_facts h.1
      show (selF d l).length ≤ maxLen
      rw [h1]
      simp only [maxLen]
      omega
    · obtain ⟨i, hi, hxi⟩ := List.mem_filterMap.1 hx
      exact g.2.2 x (List.mem_of_getElem? hxi)
  · exact ⟨⟨Nat.zero_le _, by simp⟩, ⟨Nat.zero_le _, by simp⟩⟩
end Go.Proofs.Ytknnnebjjjldpaa.Ab
