/- RepairWeight: the contracts of the layer for the law. Written by gen/backc.py. -/
import Derived.Test.YtknnnebjjjldpaaWgt
open Go Go.Proofs Go.RowKit
namespace Go.Proofs.Ytknnnebjjjldpaa.Ab
set_option linter.unusedSimpArgs false
set_option linter.unusedVariables false
set_option maxRecDepth 100000
theorem _root_.Go.Proofs.Ytknnnebjjjldpaa.implRepairWeight_c {x0 : Dbs} {a0_0 : Option Addr} {cap0_0 : Nat} {a1_0 : Option Addr} {cap1_0 : Nat} {a1 : Option Addr} {cap1 : Nat} {l1 : List Int} {a2 : Option Addr} {cap2 : Nat} {l2 : List Int} {w : World} (hz0 : sizeDatabase x0 ≤ 1048576) (hz1 : l1.length ≤ 1048576) (hz2 : l2.length ≤ 1048576) (h0 : At cDbs w x0 [.slice a0_0 x0.rels.length cap0_0, .slice a1_0 x0.facts.length cap1_0]) (h1 : At (cSlice cInt) w l1 [.slice a1 l1.length cap1]) (h2 : At (cSlice cInt) w l2 [.slice a2 l2.length cap2]) :
    Calls Try.prog 55 #[.agg #[.slice a0_0 x0.rels.length cap0_0, .slice a1_0 x0.facts.length cap1_0], .slice a1 l1.length cap1, .slice a2 l2.length cap2] w fun e w' => e = .returned (.int .i64 (repW x0 l1 l2)) ∧ Below w.heap.size w w' := by
  refine Calls.mono ((implRepairWeight_a (eDbs.gd h0) l1 l2 hz1 hz2 ((eSlice eInt).gd h2)).call (cs := [_, _, _]) ?_) ?_
  · simp only [RdSs]
    exact ⟨_, _, rfl, (eDbs.argA h0), ⟨_, _, rfl, ((eSlice eInt).arg1 (x := l1) rfl h1), ⟨_, _, rfl, ((eSlice eInt).arg1 (x := l2) rfl h2), rfl⟩⟩⟩
  · rintro e w' ⟨c, rfl, q1, q2⟩
    exact ⟨by rw [q1.d], q2⟩
theorem _root_.Go.Proofs.Ytknnnebjjjldpaa.specRepairWeight_c {x0 : Dbs} {a0_0 : Option Addr} {cap0_0 : Nat} {a1_0 : Option Addr} {cap1_0 : Nat} {a1 : Option Addr} {cap1 : Nat} {l1 : List Int} {a2 : Option Addr} {cap2 : Nat} {l2 : List Int} {w : World} (hz0 : sizeDatabase x0 ≤ 1048576) (hz1 : l1.length ≤ 1048576) (hz2 : l2.length ≤ 1048576) (h0 : At cDbs w x0 [.slice a0_0 x0.rels.length cap0_0, .slice a1_0 x0.facts.length cap1_0]) (h1 : At (cSlice cInt) w l1 [.slice a1 l1.length cap1]) (h2 : At (cSlice cInt) w l2 [.slice a2 l2.length cap2]) :
    Calls Try.prog 54 #[.agg #[.slice a0_0 x0.rels.length cap0_0, .slice a1_0 x0.facts.length cap1_0], .slice a1 l1.length cap1, .slice a2 l2.length cap2] w fun e w' => e = .returned (.int .i64 (repW x0 l1 l2)) ∧ Below w.heap.size w w' := by
  refine Calls.mono ((specRepairWeight_a (eDbs.gd h0) l1 l2 hz1 hz2).call (cs := [_, _, _]) ?_) ?_
  · simp only [RdSs]
    exact ⟨_, _, rfl, (eDbs.argA h0), ⟨_, _, rfl, ((eSlice eInt).arg1 (x := l1) rfl h1), ⟨_, _, rfl, ((eSlice eInt).arg1 (x := l2) rfl h2), rfl⟩⟩⟩
  · rintro e w' ⟨c, rfl, q1, q2⟩
    exact ⟨by rw [q1.d], q2⟩
end Go.Proofs.Ytknnnebjjjldpaa.Ab

