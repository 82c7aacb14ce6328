/- FormatGroups: the contracts of the layer for the law. Written by gen/backc.py. -/
import Derived.Test.YtlcogbmceanghaaDoorFmtGr
open Go Go.Proofs Go.RowKit
namespace Go.Proofs.YtlcogbmceanghaaDoor.Ab
set_option linter.unusedSimpArgs false
set_option linter.unusedVariables false
set_option maxRecDepth 100000
theorem _root_.Go.Proofs.YtlcogbmceanghaaDoor.implFormatGroups_c {a0 : Option Addr} {cap0 : Nat} {l0 : List Grp} {w : World} (hz0 : l0.length ≤ 1048576) (h0 : At (cSlice cGrp) w l0 [.slice a0 l0.length cap0]) (hg : Glob w := by exact trivial) :
    Calls Tryd.prog 20 #[.slice a0 l0.length cap0] w fun e w' => e = .returned (.string (Ab.grpsB l0)) ∧ Below w.heap.size w w' := by
  refine Calls.mono (((implFormatGroups_a ((eSlice eGrp).gd h0) hz0)).call (cs := [_]) ?_) ?_
  · simp only [RdSs]
    exact ⟨_, _, rfl, ((eSlice eGrp).arg1 (x := l0) rfl h0), rfl⟩
  · rintro e w' ⟨c, rfl, q1, q2⟩
    exact ⟨by rw [q1.d], q2⟩
theorem _root_.Go.Proofs.YtlcogbmceanghaaDoor.specFormatGroups_c {a0 : Option Addr} {cap0 : Nat} {l0 : List Grp} {w : World} (hz0 : l0.length ≤ 1048576) (h0 : At (cSlice cGrp) w l0 [.slice a0 l0.length cap0]) (hg : Glob w := by exact trivial) :
    Calls Tryd.prog 18 #[.slice a0 l0.length cap0] w fun e w' => e = .returned (.string (Ab.grpsB l0)) ∧ Below w.heap.size w w' := by
  refine Calls.mono (((specFormatGroups_a ((eSlice eGrp).gd h0) hz0)).call (cs := [_]) ?_) ?_
  · simp only [RdSs]
    exact ⟨_, _, rfl, ((eSlice eGrp).arg1 (x := l0) rfl h0), rfl⟩
  · rintro e w' ⟨c, rfl, q1, q2⟩
    exact ⟨by rw [q1.d], q2⟩
end Go.Proofs.YtlcogbmceanghaaDoor.Ab

