/- IsCovered: the contracts of the layer for the law. Written by gen/backc.py. -/
import Derived.Test.YtgoofnhhhlncoaaCovM
open Go Go.Proofs Go.RowKit
namespace Go.Proofs.Ytgoofnhhhlncoaa.Ab
set_option linter.unusedSimpArgs false
set_option linter.unusedVariables false
set_option maxRecDepth 100000
theorem _root_.Go.Proofs.Ytgoofnhhhlncoaa.implIsCovered_c {a0 : Option Addr} {cap0 : Nat} {l0 : List (List Int)} {a1 : Option Addr} {cap1 : Nat} {l1 : List Int} {w : World} (hz0 : sizeIntSS l0 ≤ 1048576) (hz1 : l1.length ≤ 1048576) (h0 : At (cSlice (cSlice cInt)) w l0 [.slice a0 l0.length cap0]) (h1 : At (cSlice cInt) w l1 [.slice a1 l1.length cap1]) (hg : Glob w := by exact trivial) :
    Calls Try.prog 59 #[.slice a0 l0.length cap0, .slice a1 l1.length cap1] w fun e w' => e = .returned (.bool (covL l0 l1)) ∧ Below w.heap.size w w' := by
  refine Calls.mono (((implIsCovered_a ((eSlice (eSlice eInt)).gd h0) ((eSlice eInt).gd h1))).call (cs := [_, _]) ?_) ?_
  · simp only [RdSs]
    exact ⟨_, _, rfl, ((eSlice (eSlice eInt)).arg1 (x := l0) rfl h0), ⟨_, _, rfl, ((eSlice eInt).arg1 (x := l1) rfl h1), rfl⟩⟩
  · rintro e w' ⟨c, rfl, q1, q2⟩
    exact ⟨by rw [q1.d], q2⟩
theorem _root_.Go.Proofs.Ytgoofnhhhlncoaa.specIsCovered_c {a0 : Option Addr} {cap0 : Nat} {l0 : List (List Int)} {a1 : Option Addr} {cap1 : Nat} {l1 : List Int} {w : World} (hz0 : sizeIntSS l0 ≤ 1048576) (hz1 : l1.length ≤ 1048576) (h0 : At (cSlice (cSlice cInt)) w l0 [.slice a0 l0.length cap0]) (h1 : At (cSlice cInt) w l1 [.slice a1 l1.length cap1]) (hg : Glob w := by exact trivial) :
    Calls Try.prog 57 #[.slice a0 l0.length cap0, .slice a1 l1.length cap1] w fun e w' => e = .returned (.bool (covL l0 l1)) ∧ Below w.heap.size w w' := by
  refine Calls.mono (((specIsCovered_a ((eSlice (eSlice eInt)).gd h0) ((eSlice eInt).gd h1))).call (cs := [_, _]) ?_) ?_
  · simp only [RdSs]
    exact ⟨_, _, rfl, ((eSlice (eSlice eInt)).arg1 (x := l0) rfl h0), ⟨_, _, rfl, ((eSlice eInt).arg1 (x := l1) rfl h1), rfl⟩⟩
  · rintro e w' ⟨c, rfl, q1, q2⟩
    exact ⟨by rw [q1.d], q2⟩
end Go.Proofs.Ytgoofnhhhlncoaa.Ab

