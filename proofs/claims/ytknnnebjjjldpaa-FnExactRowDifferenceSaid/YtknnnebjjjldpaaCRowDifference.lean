/- RowDifference: the contracts of the layer for the law. Written by gen/backc.py. -/
import Derived.Test.YtknnnebjjjldpaaRowD
open Go Go.Proofs Go.RowKit
namespace Go.Proofs.Ytknnnebjjjldpaa.Ab
set_option linter.unusedSimpArgs false
set_option linter.unusedVariables false
set_option maxRecDepth 100000
theorem _root_.Go.Proofs.Ytknnnebjjjldpaa.implRowDifference_c {a0 : Option Addr} {cap0 : Nat} {l0 : List (List Int)} {a1 : Option Addr} {cap1 : Nat} {l1 : List (List Int)} {w : World} (hz0 : sizeIntSS l0 ≤ 1048576) (hz1 : sizeIntSS l1 ≤ 1048576) (h0 : At (cSlice (cSlice cInt)) w l0 [.slice a0 l0.length cap0]) (h1 : At (cSlice (cSlice cInt)) w l1 [.slice a1 l1.length cap1]) :
    Calls Try.prog 42 #[.slice a0 l0.length cap0, .slice a1 l1.length cap1] w fun e w' => (∃ a cap, e = .returned (.slice a (rowD l0 l1).length cap) ∧ Own (cSlice (cSlice cInt)) w.heap.size w' (rowD l0 l1) [.slice a (rowD l0 l1).length cap]) ∧ Below w.heap.size w w' := by
  have hgood : (eSlice (eSlice eInt)).good (rowD l0 l1) := rowD_good ((eSlice (eSlice eInt)).gd h0)
  refine Calls.mono ((implRowDifference_a l0 l1 (sizeIntSS_len hz0) (sizeIntSS_each hz0) (sizeIntSS_len hz1) (sizeIntSS_each hz1)).call (cs := [_, _]) ?_) ?_
  · simp only [RdSs]
    exact ⟨_, _, rfl, ((eSlice (eSlice eInt)).arg1 (x := l0) rfl h0), ⟨_, _, rfl, ((eSlice (eSlice eInt)).arg1 (x := l1) rfl h1), rfl⟩⟩
  · rintro e w' ⟨c, rfl, q1, q2⟩
    obtain ⟨F, ho, _⟩ := id ((eSlice (eSlice eInt)).own1 (x := rowD l0 l1) rfl hgood q1)
    have hq := (eSlice (eSlice eInt)).own1 (x := rowD l0 l1) rfl hgood q1
    obtain ⟨a, cap, e, _⟩ := ho
    injection e with e
    subst e
    exact ⟨⟨a, cap, rfl, hq⟩, q2⟩
theorem _root_.Go.Proofs.Ytknnnebjjjldpaa.specRowDifference_c {a0 : Option Addr} {cap0 : Nat} {l0 : List (List Int)} {a1 : Option Addr} {cap1 : Nat} {l1 : List (List Int)} {w : World} (hz0 : sizeIntSS l0 ≤ 1048576) (hz1 : sizeIntSS l1 ≤ 1048576) (h0 : At (cSlice (cSlice cInt)) w l0 [.slice a0 l0.length cap0]) (h1 : At (cSlice (cSlice cInt)) w l1 [.slice a1 l1.length cap1]) :
    Calls Try.prog 41 #[.slice a0 l0.length cap0, .slice a1 l1.length cap1] w fun e w' => (∃ a cap, e = .returned (.slice a (rowD l0 l1).length cap) ∧ Own (cSlice (cSlice cInt)) w.heap.size w' (rowD l0 l1) [.slice a (rowD l0 l1).length cap]) ∧ Below w.heap.size w w' := by
  have hgood : (eSlice (eSlice eInt)).good (rowD l0 l1) := rowD_good ((eSlice (eSlice eInt)).gd h0)
  refine Calls.mono ((specRowDifference_a l0 l1 ((eSlice (eSlice eInt)).gd h0) ((eSlice (eSlice eInt)).gd h1) (sizeIntSS_len hz0) (sizeIntSS_each hz0) (sizeIntSS_len hz1)).call (cs := [_, _]) ?_) ?_
  · simp only [RdSs]
    exact ⟨_, _, rfl, ((eSlice (eSlice eInt)).arg1 (x := l0) rfl h0), ⟨_, _, rfl, ((eSlice (eSlice eInt)).arg1 (x := l1) rfl h1), rfl⟩⟩
  · rintro e w' ⟨c, rfl, q1, q2⟩
    obtain ⟨F, ho, _⟩ := id ((eSlice (eSlice eInt)).own1 (x := rowD l0 l1) rfl hgood q1)
    have hq := (eSlice (eSlice eInt)).own1 (x := rowD l0 l1) rfl hgood q1
    obtain ⟨a, cap, e, _⟩ := ho
    injection e with e
    subst e
    exact ⟨⟨a, cap, rfl, hq⟩, q2⟩
end Go.Proofs.Ytknnnebjjjldpaa.Ab

