/- FormatRelation: the contracts of the layer for the law. Written by gen/backc.py. -/
import Derived.Test.YthkbmfpgdidfhaaDoorFmtT
open Go Go.Proofs Go.RowKit
namespace Go.Proofs.YthkbmfpgdidfhaaDoor.Ab
set_option linter.unusedSimpArgs false
set_option linter.unusedVariables false
set_option maxRecDepth 100000
theorem _root_.Go.Proofs.YthkbmfpgdidfhaaDoor.implFormatRelation_c {r0 : Rel} {w : World} (hz0 : r0.name.size ≤ 1048576) (h0 : At cRel w r0 [.string r0.name, .int .i64 r0.arity, .int .i64 r0.key]) (hg : Glob w := by exact trivial) :
    Calls Tryd.prog 18 #[.agg #[.string r0.name, .int .i64 r0.arity, .int .i64 r0.key]] w fun e w' => e = .returned (.string (Ab.relB r0)) ∧ Below w.heap.size w w' := by
  refine Calls.mono (((implFormatRelation_a (eRel.gd h0))).call (cs := [_]) ?_) ?_
  · simp only [RdSs]
    exact ⟨_, _, rfl, (eRel.argA h0), rfl⟩
  · rintro e w' ⟨c, rfl, q1, q2⟩
    exact ⟨by rw [q1.d], q2⟩
theorem _root_.Go.Proofs.YthkbmfpgdidfhaaDoor.specFormatRelation_c {r0 : Rel} {w : World} (hz0 : r0.name.size ≤ 1048576) (h0 : At cRel w r0 [.string r0.name, .int .i64 r0.arity, .int .i64 r0.key]) (hg : Glob w := by exact trivial) :
    Calls Tryd.prog 16 #[.agg #[.string r0.name, .int .i64 r0.arity, .int .i64 r0.key]] w fun e w' => e = .returned (.string (Ab.relB r0)) ∧ Below w.heap.size w w' := by
  refine Calls.mono (((specFormatRelation_a (eRel.gd h0))).call (cs := [_]) ?_) ?_
  · simp only [RdSs]
    exact ⟨_, _, rfl, (eRel.argA h0), rfl⟩
  · rintro e w' ⟨c, rfl, q1, q2⟩
    exact ⟨by rw [q1.d], q2⟩
end Go.Proofs.YthkbmfpgdidfhaaDoor.Ab

