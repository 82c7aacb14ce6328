/- FormatDatabase: the contracts of the layer for the law. Written by gen/backc.py. -/
import Derived.Test.YteabehbpfhfljaaDoorFmtD
open Go Go.Proofs Go.RowKit
namespace Go.Proofs.YteabehbpfhfljaaDoor.Ab
set_option linter.unusedSimpArgs false
set_option linter.unusedVariables false
set_option maxRecDepth 100000
theorem _root_.Go.Proofs.YteabehbpfhfljaaDoor.implFormatDatabase_c {x0 : Dbs} {a0_0 : Option Addr} {cap0_0 : Nat} {a1_0 : Option Addr} {cap1_0 : Nat} {w : World} (hz0 : sizeDatabase x0 ≤ 1048576) (h0 : At cDbs w x0 [.slice a0_0 x0.rels.length cap0_0, .slice a1_0 x0.facts.length cap1_0]) (hg : Glob w := by exact trivial) :
    Calls Tryd.prog 15 #[.agg #[.slice a0_0 x0.rels.length cap0_0, .slice a1_0 x0.facts.length cap1_0]] w fun e w' => e = .returned (.string (Ab.dbB x0)) ∧ Below w.heap.size w w' := by
  refine Calls.mono (((implFormatDatabase_a (eDbs.gd h0) (by unfold sizeDatabase sizeRelationS at hz0; omega) (by unfold sizeDatabase sizeFactS at hz0; omega))).call (cs := [_]) ?_) ?_
  · simp only [RdSs]
    exact ⟨_, _, rfl, (eDbs.argA h0), rfl⟩
  · rintro e w' ⟨c, rfl, q1, q2⟩
    exact ⟨by rw [q1.d], q2⟩
theorem _root_.Go.Proofs.YteabehbpfhfljaaDoor.specFormatDatabase_c {x0 : Dbs} {a0_0 : Option Addr} {cap0_0 : Nat} {a1_0 : Option Addr} {cap1_0 : Nat} {w : World} (hz0 : sizeDatabase x0 ≤ 1048576) (h0 : At cDbs w x0 [.slice a0_0 x0.rels.length cap0_0, .slice a1_0 x0.facts.length cap1_0]) (hg : Glob w := by exact trivial) :
    Calls Tryd.prog 14 #[.agg #[.slice a0_0 x0.rels.length cap0_0, .slice a1_0 x0.facts.length cap1_0]] w fun e w' => e = .returned (.string (Ab.dbB x0)) ∧ Below w.heap.size w w' := by
  refine Calls.mono (((specFormatDatabase_a (eDbs.gd h0) (by unfold sizeDatabase sizeRelationS at hz0; omega) (by unfold sizeDatabase sizeFactS at hz0; omega))).call (cs := [_]) ?_) ?_
  · simp only [RdSs]
    exact ⟨_, _, rfl, (eDbs.argA h0), rfl⟩
  · rintro e w' ⟨c, rfl, q1, q2⟩
    exact ⟨by rw [q1.d], q2⟩
end Go.Proofs.YteabehbpfhfljaaDoor.Ab

