/- FormatTerm: the contracts of the layer for the law. Written by gen/backc.py. -/
import Derived.Test.YthkbmfpgdidfhaaDoorFmtT
open Go Go.Proofs Go.RowKit
namespace Go.Proofs.YthkbmfpgdidfhaaDoor.Ab
set_option linter.unusedSimpArgs false
set_option linter.unusedVariables false
set_option maxRecDepth 100000
theorem _root_.Go.Proofs.YthkbmfpgdidfhaaDoor.implFormatTerm_c {a0 : Int} {w : World} (hi0 : inR a0) (hg : Glob w := by exact trivial) :
    Calls Tryd.prog 23 #[.int .i64 a0] w fun e w' => e = .returned (.string (Ab.termB a0)) ∧ Below w.heap.size w w' := by
  refine Calls.mono (((implFormatTerm_a hi0)).call (cs := [_]) ?_) ?_
  · simp only [RdSs]
    exact ⟨_, _, rfl, (RdS.ofVal _ _ rfl), rfl⟩
  · rintro e w' ⟨c, rfl, q1, q2⟩
    exact ⟨by rw [q1.d], q2⟩
theorem _root_.Go.Proofs.YthkbmfpgdidfhaaDoor.specFormatTerm_c {a0 : Int} {w : World} (hi0 : inR a0) (hg : Glob w := by exact trivial) :
    Calls Tryd.prog 22 #[.int .i64 a0] w fun e w' => e = .returned (.string (Ab.termB a0)) ∧ Below w.heap.size w w' := by
  refine Calls.mono (((specFormatTerm_a hi0)).call (cs := [_]) ?_) ?_
  · simp only [RdSs]
    exact ⟨_, _, rfl, (RdS.ofVal _ _ rfl), rfl⟩
  · rintro e w' ⟨c, rfl, q1, q2⟩
    exact ⟨by rw [q1.d], q2⟩
end Go.Proofs.YthkbmfpgdidfhaaDoor.Ab

