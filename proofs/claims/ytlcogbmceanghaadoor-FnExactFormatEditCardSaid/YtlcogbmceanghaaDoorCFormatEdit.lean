/- FormatEdit: the contracts of the layer for the law. Written by gen/backc.py. -/
import Derived.Test.YtlcogbmceanghaaDoorFmtEd
open Go Go.Proofs Go.RowKit
namespace Go.Proofs.YtlcogbmceanghaaDoor.Ab
set_option linter.unusedSimpArgs false
set_option linter.unusedVariables false
set_option maxRecDepth 100000
theorem _root_.Go.Proofs.YtlcogbmceanghaaDoor.implFormatEdit_c {x0 : Dbs} {a0_0 : Option Addr} {cap0_0 : Nat} {a1_0 : Option Addr} {cap1_0 : Nat} {x1 : Edt} {a2_1 : Option Addr} {cap2_1 : Nat} {w : World} (hz0 : sizeDatabase x0 ≤ 1048576) (hz1 : sizeEdit x1 ≤ 1048576) (h0 : At cDbs w x0 [.slice a0_0 x0.rels.length cap0_0, .slice a1_0 x0.facts.length cap1_0]) (h1 : At cEdt w x1 [.int .i64 x1.kind, .int .i64 x1.fact.rel, .slice a2_1 x1.fact.vals.length cap2_1]) (hg : Glob w := by exact trivial) :
    Calls Tryd.prog 27 #[.agg #[.slice a0_0 x0.rels.length cap0_0, .slice a1_0 x0.facts.length cap1_0], .agg #[.int .i64 x1.kind, .int .i64 x1.fact.rel, .slice a2_1 x1.fact.vals.length cap2_1]] w fun e w' => e = .returned (.string (Ab.edB x0 x1)) ∧ Below w.heap.size w w' := by
  refine Calls.mono (((implFormatEdit_a (eDbs.gd h0) (eEdt.gd h1))).call (cs := [_, _]) ?_) ?_
  · simp only [RdSs]
    exact ⟨_, _, rfl, (eDbs.argA h0), ⟨_, _, rfl, (eEdt.argA h1), rfl⟩⟩
  · rintro e w' ⟨c, rfl, q1, q2⟩
    exact ⟨by rw [q1.d], q2⟩
theorem _root_.Go.Proofs.YtlcogbmceanghaaDoor.specFormatEdit_c {x0 : Dbs} {a0_0 : Option Addr} {cap0_0 : Nat} {a1_0 : Option Addr} {cap1_0 : Nat} {x1 : Edt} {a2_1 : Option Addr} {cap2_1 : Nat} {w : World} (hz0 : sizeDatabase x0 ≤ 1048576) (hz1 : sizeEdit x1 ≤ 1048576) (h0 : At cDbs w x0 [.slice a0_0 x0.rels.length cap0_0, .slice a1_0 x0.facts.length cap1_0]) (h1 : At cEdt w x1 [.int .i64 x1.kind, .int .i64 x1.fact.rel, .slice a2_1 x1.fact.vals.length cap2_1]) (hg : Glob w := by exact trivial) :
    Calls Tryd.prog 24 #[.agg #[.slice a0_0 x0.rels.length cap0_0, .slice a1_0 x0.facts.length cap1_0], .agg #[.int .i64 x1.kind, .int .i64 x1.fact.rel, .slice a2_1 x1.fact.vals.length cap2_1]] w fun e w' => e = .returned (.string (Ab.edB x0 x1)) ∧ Below w.heap.size w w' := by
  refine Calls.mono (((specFormatEdit_a (eDbs.gd h0) (eEdt.gd h1))).call (cs := [_, _]) ?_) ?_
  · simp only [RdSs]
    exact ⟨_, _, rfl, (eDbs.argA h0), ⟨_, _, rfl, (eEdt.argA h1), rfl⟩⟩
  · rintro e w' ⟨c, rfl, q1, q2⟩
    exact ⟨by rw [q1.d], q2⟩
end Go.Proofs.YtlcogbmceanghaaDoor.Ab

