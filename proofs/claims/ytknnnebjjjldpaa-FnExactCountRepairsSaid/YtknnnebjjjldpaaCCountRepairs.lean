/- CountRepairs: the contracts of the layer for the law. Written by gen/backc.py. -/
import Derived.Test.YtknnnebjjjldpaaStat
open Go Go.Proofs Go.RowKit
namespace Go.Proofs.Ytknnnebjjjldpaa.Ab
set_option linter.unusedSimpArgs false
set_option linter.unusedVariables false
set_option maxRecDepth 100000
theorem _root_.Go.Proofs.Ytknnnebjjjldpaa.implCountRepairs_c {x0 : Dbs} {a0_0 : Option Addr} {cap0_0 : Nat} {a1_0 : Option Addr} {cap1_0 : Nat} {w : World} (hz0 : sizeDatabase x0 ≤ 1048576) (h0 : At cDbs w x0 [.slice a0_0 x0.rels.length cap0_0, .slice a1_0 x0.facts.length cap1_0]) :
    Calls Try.prog 46 #[.agg #[.slice a0_0 x0.rels.length cap0_0, .slice a1_0 x0.facts.length cap1_0]] w fun e w' => e = .returned (.int .i64 (countL x0)) ∧ Below w.heap.size w w' := by
  refine Calls.mono ((implCountRepairs_a (eDbs.gd h0)).call (cs := [_]) ?_) ?_
  · simp only [RdSs]
    exact ⟨_, _, rfl, (eDbs.argA h0), rfl⟩
  · rintro e w' ⟨c, rfl, q1, q2⟩
    exact ⟨by rw [q1.d], q2⟩
theorem _root_.Go.Proofs.Ytknnnebjjjldpaa.specCountRepairs_c {x0 : Dbs} {a0_0 : Option Addr} {cap0_0 : Nat} {a1_0 : Option Addr} {cap1_0 : Nat} {w : World} (hz0 : sizeDatabase x0 ≤ 1048576) (h0 : At cDbs w x0 [.slice a0_0 x0.rels.length cap0_0, .slice a1_0 x0.facts.length cap1_0]) :
    Calls Try.prog 44 #[.agg #[.slice a0_0 x0.rels.length cap0_0, .slice a1_0 x0.facts.length cap1_0]] w fun e w' => e = .returned (.int .i64 (countL x0)) ∧ Below w.heap.size w w' := by
  refine Calls.mono ((specCountRepairs_a (eDbs.gd h0)).call (cs := [_]) ?_) ?_
  · simp only [RdSs]
    exact ⟨_, _, rfl, (eDbs.argA h0), rfl⟩
  · rintro e w' ⟨c, rfl, q1, q2⟩
    exact ⟨by rw [q1.d], q2⟩
end Go.Proofs.Ytknnnebjjjldpaa.Ab

