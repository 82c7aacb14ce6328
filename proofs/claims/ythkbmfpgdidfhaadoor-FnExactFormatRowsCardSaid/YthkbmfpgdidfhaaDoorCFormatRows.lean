/- FormatRows: the contracts of the layer for the law. Written by gen/backc.py. -/
import Derived.Test.YthkbmfpgdidfhaaDoorFmtR
open Go Go.Proofs Go.RowKit
namespace Go.Proofs.YthkbmfpgdidfhaaDoor.Ab
set_option linter.unusedSimpArgs false
set_option linter.unusedVariables false
set_option maxRecDepth 100000
theorem _root_.Go.Proofs.YthkbmfpgdidfhaaDoor.implFormatRows_c {a0 : Option Addr} {cap0 : Nat} {l0 : List (List Int)} {w : World} (hz0 : sizeIntSS l0 ≤ 1048576) (h0 : At (cSlice (cSlice cInt)) w l0 [.slice a0 l0.length cap0]) (hg : Glob w := by exact trivial) :
    Calls Tryd.prog 42 #[.slice a0 l0.length cap0] w fun e w' => e = .returned (.string (Ab.rowsB l0)) ∧ Below w.heap.size w w' := by
  refine Calls.mono (((implFormatRows_a (fun b hb => ((eSlice (eSlice eInt)).gd h0).2 b hb) (sizeIntSS_len hz0) (sizeIntSS_each hz0))).call (cs := [_]) ?_) ?_
  · simp only [RdSs]
    exact ⟨_, _, rfl, ((eSlice (eSlice eInt)).arg1 (x := l0) rfl h0), rfl⟩
  · rintro e w' ⟨c, rfl, q1, q2⟩
    exact ⟨by rw [q1.d], q2⟩
theorem _root_.Go.Proofs.YthkbmfpgdidfhaaDoor.specFormatRows_c {a0 : Option Addr} {cap0 : Nat} {l0 : List (List Int)} {w : World} (hz0 : sizeIntSS l0 ≤ 1048576) (h0 : At (cSlice (cSlice cInt)) w l0 [.slice a0 l0.length cap0]) (hg : Glob w := by exact trivial) :
    Calls Tryd.prog 40 #[.slice a0 l0.length cap0] w fun e w' => e = .returned (.string (Ab.rowsB l0)) ∧ Below w.heap.size w w' := by
  refine Calls.mono (((specFormatRows_a (fun b hb => ((eSlice (eSlice eInt)).gd h0).2 b hb) (sizeIntSS_len hz0) (sizeIntSS_each hz0))).call (cs := [_]) ?_) ?_
  · simp only [RdSs]
    exact ⟨_, _, rfl, ((eSlice (eSlice eInt)).arg1 (x := l0) rfl h0), rfl⟩
  · rintro e w' ⟨c, rfl, q1, q2⟩
    exact ⟨by rw [q1.d], q2⟩
end Go.Proofs.YthkbmfpgdidfhaaDoor.Ab

