/- FormatClause: the contracts of the layer for the law. Written by gen/backc.py. -/
import Derived.Test.YthkbmfpgdidfhaaDoorFmtC
open Go Go.Proofs Go.RowKit
namespace Go.Proofs.YthkbmfpgdidfhaaDoor.Ab
set_option linter.unusedSimpArgs false
set_option linter.unusedVariables false
set_option maxRecDepth 100000
theorem _root_.Go.Proofs.YthkbmfpgdidfhaaDoor.implFormatClause_c {a0 : Option Addr} {cap0 : Nat} {l0 : List Int} {w : World} (hz0 : l0.length ≤ 1048576) (h0 : At (cSlice cInt) w l0 [.slice a0 l0.length cap0]) (hg : Glob w := by exact trivial) :
    Calls Tryd.prog 31 #[.slice a0 l0.length cap0] w fun e w' => e = .returned (.string (Ab.brB ⟨#[32]⟩ l0)) ∧ Below w.heap.size w w' := by
  refine Calls.mono (((implFormatClause_a ((eSlice eInt).gd h0) hz0)).call (cs := [_]) ?_) ?_
  · simp only [RdSs]
    exact ⟨_, _, rfl, ((eSlice eInt).arg1 (x := l0) rfl h0), rfl⟩
  · rintro e w' ⟨c, rfl, q1, q2⟩
    exact ⟨by rw [q1.d], q2⟩
theorem _root_.Go.Proofs.YthkbmfpgdidfhaaDoor.specFormatClause_c {a0 : Option Addr} {cap0 : Nat} {l0 : List Int} {w : World} (hz0 : l0.length ≤ 1048576) (h0 : At (cSlice cInt) w l0 [.slice a0 l0.length cap0]) (hg : Glob w := by exact trivial) :
    Calls Tryd.prog 29 #[.slice a0 l0.length cap0] w fun e w' => e = .returned (.string (Ab.brB ⟨#[32]⟩ l0)) ∧ Below w.heap.size w w' := by
  refine Calls.mono (((specFormatClause_a ((eSlice eInt).gd h0) hz0)).call (cs := [_]) ?_) ?_
  · simp only [RdSs]
    exact ⟨_, _, rfl, ((eSlice eInt).arg1 (x := l0) rfl h0), rfl⟩
  · rintro e w' ⟨c, rfl, q1, q2⟩
    exact ⟨by rw [q1.d], q2⟩
end Go.Proofs.YthkbmfpgdidfhaaDoor.Ab

