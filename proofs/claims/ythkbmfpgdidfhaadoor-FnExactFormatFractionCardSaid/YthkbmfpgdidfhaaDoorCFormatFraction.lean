/- FormatFraction: the contracts of the layer for the law. Written by gen/backc.py. -/
import Derived.Test.YthkbmfpgdidfhaaDoorFmtQ
open Go Go.Proofs Go.RowKit
namespace Go.Proofs.YthkbmfpgdidfhaaDoor.Ab
set_option linter.unusedSimpArgs false
set_option linter.unusedVariables false
set_option maxRecDepth 100000
theorem _root_.Go.Proofs.YthkbmfpgdidfhaaDoor.implFormatFraction_c {x0 : Frc}  {w : World} (h0 : At cFrc w x0 [.int .i64 x0.num, .int .i64 x0.den]) (hg : Glob w := by exact trivial) :
    Calls Tryd.prog 28 #[.agg #[.int .i64 x0.num, .int .i64 x0.den]] w fun e w' => e = .returned (.string (Ab.frcB x0)) ∧ Below w.heap.size w w' := by
  refine Calls.mono (((implFormatFraction_a (eFrc.gd h0))).call (cs := [_]) ?_) ?_
  · simp only [RdSs]
    exact ⟨_, _, rfl, (eFrc.argA h0), rfl⟩
  · rintro e w' ⟨c, rfl, q1, q2⟩
    exact ⟨by rw [q1.d], q2⟩
theorem _root_.Go.Proofs.YthkbmfpgdidfhaaDoor.specFormatFraction_c {x0 : Frc}  {w : World} (h0 : At cFrc w x0 [.int .i64 x0.num, .int .i64 x0.den]) (hg : Glob w := by exact trivial) :
    Calls Tryd.prog 26 #[.agg #[.int .i64 x0.num, .int .i64 x0.den]] w fun e w' => e = .returned (.string (Ab.frcB x0)) ∧ Below w.heap.size w w' := by
  refine Calls.mono (((specFormatFraction_a (eFrc.gd h0))).call (cs := [_]) ?_) ?_
  · simp only [RdSs]
    exact ⟨_, _, rfl, (eFrc.argA h0), rfl⟩
  · rintro e w' ⟨c, rfl, q1, q2⟩
    exact ⟨by rw [q1.d], q2⟩
end Go.Proofs.YthkbmfpgdidfhaaDoor.Ab

