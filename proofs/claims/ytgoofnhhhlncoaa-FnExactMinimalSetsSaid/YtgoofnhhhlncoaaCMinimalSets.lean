/- MinimalSets: the contracts of the layer for the law. Written by gen/backc.py. -/
import Derived.Test.YtgoofnhhhlncoaaMinM
open Go Go.Proofs Go.RowKit
namespace Go.Proofs.Ytgoofnhhhlncoaa.Ab
set_option linter.unusedSimpArgs false
set_option linter.unusedVariables false
set_option maxRecDepth 100000
theorem _root_.Go.Proofs.Ytgoofnhhhlncoaa.implMinimalSets_c {a0 : Option Addr} {cap0 : Nat} {l0 : List (List Int)} {w : World} (hz0 : sizeIntSS l0 ≤ 1048576) (h0 : At (cSlice (cSlice cInt)) w l0 [.slice a0 l0.length cap0]) (hg : Glob w := by exact trivial) :
    Calls Try.prog 61 #[.slice a0 l0.length cap0] w fun e w' => (∃ a cap, e = .returned (.slice a (Ab.minL l0 l0.length).length cap) ∧ Own (cSlice (cSlice cInt)) w.heap.size w' (Ab.minL l0 l0.length) [.slice a (Ab.minL l0 l0.length).length cap]) ∧ Below w.heap.size w w' := by
  have hgood : (eSlice (eSlice eInt)).good (Ab.minL l0 l0.length) := (selC_good (Nat.le_trans (minI_len l0 l0.length) (sizeIntSS_len hz0)) ((eSlice (eSlice eInt)).gd h0))
  refine Calls.mono (((implMinimalSets_a l0 ((eSlice (eSlice eInt)).gd h0) (sizeIntSS_len hz0) (sizeIntSS_each hz0))).call (cs := [_]) ?_) ?_
  · simp only [RdSs]
    exact ⟨_, _, rfl, ((eSlice (eSlice eInt)).arg1 (x := l0) rfl h0), rfl⟩
  · rintro e w' ⟨c, rfl, q1, q2⟩
    obtain ⟨F, ho, _⟩ := id ((eSlice (eSlice eInt)).own1 (x := Ab.minL l0 l0.length) rfl hgood q1)
    have hq := (eSlice (eSlice eInt)).own1 (x := Ab.minL l0 l0.length) rfl hgood q1
    obtain ⟨a, cap, e, _⟩ := ho
    injection e with e
    subst e
    exact ⟨⟨a, cap, rfl, hq⟩, q2⟩
theorem _root_.Go.Proofs.Ytgoofnhhhlncoaa.specMinimalSets_c {a0 : Option Addr} {cap0 : Nat} {l0 : List (List Int)} {w : World} (hz0 : sizeIntSS l0 ≤ 1048576) (h0 : At (cSlice (cSlice cInt)) w l0 [.slice a0 l0.length cap0]) (hg : Glob w := by exact trivial) :
    Calls Try.prog 60 #[.slice a0 l0.length cap0] w fun e w' => (∃ a cap, e = .returned (.slice a (Ab.minL l0 l0.length).length cap) ∧ Own (cSlice (cSlice cInt)) w.heap.size w' (Ab.minL l0 l0.length) [.slice a (Ab.minL l0 l0.length).length cap]) ∧ Below w.heap.size w w' := by
  have hgood : (eSlice (eSlice eInt)).good (Ab.minL l0 l0.length) := (selC_good (Nat.le_trans (minI_len l0 l0.length) (sizeIntSS_len hz0)) ((eSlice (eSlice eInt)).gd h0))
  refine Calls.mono (((specMinimalSets_a l0 ((eSlice (eSlice eInt)).gd h0) (sizeIntSS_len hz0) (sizeIntSS_each hz0))).call (cs := [_]) ?_) ?_
  · simp only [RdSs]
    exact ⟨_, _, rfl, ((eSlice (eSlice eInt)).arg1 (x := l0) rfl h0), rfl⟩
  · rintro e w' ⟨c, rfl, q1, q2⟩
    obtain ⟨F, ho, _⟩ := id ((eSlice (eSlice eInt)).own1 (x := Ab.minL l0 l0.length) rfl hgood q1)
    have hq := (eSlice (eSlice eInt)).own1 (x := Ab.minL l0 l0.length) rfl hgood q1
    obtain ⟨a, cap, e, _⟩ := ho
    injection e with e
    subst e
    exact ⟨⟨a, cap, rfl, hq⟩, q2⟩
end Go.Proofs.Ytgoofnhhhlncoaa.Ab

