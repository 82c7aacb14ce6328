/- MaximalIndependentSets: the contracts of the layer for the law. Written by gen/backc.py. -/
import Derived.Test.YteabehbpfhfljaaDoorAtIn
import Derived.Test.YteabehbpfhfljaaDoorMxsOne
open Go Go.Proofs Go.RowKit
namespace Go.Proofs.YteabehbpfhfljaaDoor.Ab
set_option linter.unusedSimpArgs false
set_option linter.unusedVariables false
set_option maxRecDepth 100000
theorem _root_.Go.Proofs.YteabehbpfhfljaaDoor.implMaximalIndependentSets_c {a0 : Int} {a1 : Option Addr} {cap1 : Nat} {l1 : List Edg} {w : World} (hz1 : l1.length ≤ 1048576) (h1 : At (cSlice cEdg) w l1 [.slice a1 l1.length cap1]) (hg : Glob w := by exact trivial) :
    Calls Tryd.prog 19 #[.int .i64 a0, .slice a1 l1.length cap1] w fun e w' => (∃ a cap, e = .returned (.slice a (Ab.miL a0 l1).length cap) ∧ Own (cSlice (cSlice cInt)) w.heap.size w' (Ab.miL a0 l1) [.slice a (Ab.miL a0 l1).length cap]) ∧ Below w.heap.size w w' := by
  have hgood : (eSlice (eSlice eInt)).good (Ab.miL a0 l1) := miL_good a0 l1
  refine Calls.mono (((implMaximalIndependentSets_a (n := a0) ((eSlice eEdg).gd h1) hz1)).call (cs := [_, _]) ?_) ?_
  · simp only [RdSs]
    exact ⟨_, _, rfl, (RdS.ofVal _ _ rfl), ⟨_, _, rfl, ((eSlice eEdg).arg1 (x := l1) rfl h1), rfl⟩⟩
  · rintro e w' ⟨c, rfl, q1, q2⟩
    obtain ⟨F, ho, _⟩ := id ((eSlice (eSlice eInt)).own1 (x := Ab.miL a0 l1) rfl hgood q1)
    have hq := (eSlice (eSlice eInt)).own1 (x := Ab.miL a0 l1) rfl hgood q1
    obtain ⟨a, cap, e, _⟩ := ho
    injection e with e
    subst e
    exact ⟨⟨a, cap, rfl, hq⟩, q2⟩
theorem _root_.Go.Proofs.YteabehbpfhfljaaDoor.specMaximalIndependentSets_c {a0 : Int} {a1 : Option Addr} {cap1 : Nat} {l1 : List Edg} {w : World} (hz1 : l1.length ≤ 1048576) (h1 : At (cSlice cEdg) w l1 [.slice a1 l1.length cap1]) (hg : Glob w := by exact trivial) :
    Calls Tryd.prog 17 #[.int .i64 a0, .slice a1 l1.length cap1] w fun e w' => (∃ a cap, e = .returned (.slice a (Ab.miL a0 l1).length cap) ∧ At (cSlice (cSlice cInt)) w' (Ab.miL a0 l1) [.slice a (Ab.miL a0 l1).length cap]) ∧ Below w.heap.size w w' := by
  have hgood : (eSlice (eSlice eInt)).good (Ab.miL a0 l1) := miL_good a0 l1
  refine Calls.mono (((specMaximalIndependentSets_a (n := a0) ((eSlice eEdg).gd h1) hz1)).call (cs := [_, _]) ?_) ?_
  · simp only [RdSs]
    exact ⟨_, _, rfl, (RdS.ofVal _ _ rfl), ⟨_, _, rfl, ((eSlice eEdg).arg1 (x := l1) rfl h1), rfl⟩⟩
  · rintro e w' ⟨c, rfl, q1, q2⟩
    have hq := RdV.at1 (p := (eSlice (eSlice eInt))) (x := Ab.miL a0 l1) rfl hgood q1 q2.size
    have ho := hq
    obtain ⟨a, cap, e, _⟩ := ho
    injection e with e
    subst e
    exact ⟨⟨a, cap, rfl, hq⟩, q2⟩
end Go.Proofs.YteabehbpfhfljaaDoor.Ab

