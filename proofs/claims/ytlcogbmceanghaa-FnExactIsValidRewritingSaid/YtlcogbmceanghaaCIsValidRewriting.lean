/- IsValidRewriting: the contracts of the layer for the law. Written by gen/backc.py. -/
import Derived.Test.YtlcogbmceanghaaRwV
open Go Go.Proofs Go.RowKit
namespace Go.Proofs.Ytlcogbmceanghaa.Ab
set_option linter.unusedSimpArgs false
set_option linter.unusedVariables false
set_option maxRecDepth 100000
theorem _root_.Go.Proofs.Ytlcogbmceanghaa.implIsValidRewriting_c {a0 : Option Addr} {cap0 : Nat} {l0 : List Rel} {a1 : Option Addr} {cap1 : Nat} {l1 : List Rst} {w : World} (hz0 : sizeRelationS l0 ≤ 1048576) (hz1 : sizeRewritingStepS l1 ≤ 1048576) (h0 : At (cSlice cRel) w l0 [.slice a0 l0.length cap0]) (h1 : At (cSlice cRst) w l1 [.slice a1 l1.length cap1]) (hg : Glob w := by exact trivial) :
    Calls Try.prog 9 #[.slice a0 l0.length cap0, .slice a1 l1.length cap1] w fun e w' => e = .returned (.bool (Ab.rwV l0 l1)) ∧ Below w.heap.size w w' := by
  refine Calls.mono (((implIsValidRewriting_a ((eSlice eRel).gd h0) ((eSlice eRst).gd h1) (sizeRst_len hz1) (sizeRst_each hz1))).call (cs := [_, _]) ?_) ?_
  · simp only [RdSs]
    exact ⟨_, _, rfl, ((eSlice eRel).arg1 (x := l0) rfl h0), ⟨_, _, rfl, ((eSlice eRst).arg1 (x := l1) rfl h1), rfl⟩⟩
  · rintro e w' ⟨c, rfl, q1, q2⟩
    exact ⟨by rw [q1.d], q2⟩
theorem _root_.Go.Proofs.Ytlcogbmceanghaa.specIsValidRewriting_c {a0 : Option Addr} {cap0 : Nat} {l0 : List Rel} {a1 : Option Addr} {cap1 : Nat} {l1 : List Rst} {w : World} (hz0 : sizeRelationS l0 ≤ 1048576) (hz1 : sizeRewritingStepS l1 ≤ 1048576) (h0 : At (cSlice cRel) w l0 [.slice a0 l0.length cap0]) (h1 : At (cSlice cRst) w l1 [.slice a1 l1.length cap1]) (hg : Glob w := by exact trivial) :
    Calls Try.prog 6 #[.slice a0 l0.length cap0, .slice a1 l1.length cap1] w fun e w' => e = .returned (.bool (Ab.rwV l0 l1)) ∧ Below w.heap.size w w' := by
  refine Calls.mono (((specIsValidRewriting_a ((eSlice eRel).gd h0) ((eSlice eRst).gd h1) (sizeRst_len hz1) (sizeRst_each hz1))).call (cs := [_, _]) ?_) ?_
  · simp only [RdSs]
    exact ⟨_, _, rfl, ((eSlice eRel).arg1 (x := l0) rfl h0), ⟨_, _, rfl, ((eSlice eRst).arg1 (x := l1) rfl h1), rfl⟩⟩
  · rintro e w' ⟨c, rfl, q1, q2⟩
    exact ⟨by rw [q1.d], q2⟩
end Go.Proofs.Ytlcogbmceanghaa.Ab

