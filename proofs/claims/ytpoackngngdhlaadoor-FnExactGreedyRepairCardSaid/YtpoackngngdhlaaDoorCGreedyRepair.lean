/- GreedyRepair: the contracts of the layer for the law. Written by gen/backc.py. -/
import Derived.Test.YtpoackngngdhlaaDoorPrfTwo
open Go Go.Proofs Go.RowKit
namespace Go.Proofs.YtpoackngngdhlaaDoor.Ab
set_option linter.unusedSimpArgs false
set_option linter.unusedVariables false
set_option maxRecDepth 100000
theorem _root_.Go.Proofs.YtpoackngngdhlaaDoor.implGreedyRepair_c {a0 : Int} {a1 : Option Addr} {cap1 : Nat} {l1 : List Edg} {a2 : Option Addr} {cap2 : Nat} {l2 : List Edg} {w : World} (hz1 : l1.length ≤ 1048576) (hz2 : l2.length ≤ 1048576) (h1 : At (cSlice cEdg) w l1 [.slice a1 l1.length cap1]) (h2 : At (cSlice cEdg) w l2 [.slice a2 l2.length cap2]) (hg : Glob w := by exact trivial) :
    Calls Tryd.prog 13 #[.int .i64 a0, .slice a1 l1.length cap1, .slice a2 l2.length cap2] w fun e w' => (∃ a cap, e = .returned (.slice a (Ab.grR a0 l1 l2).length cap) ∧ Own (cSlice cInt) w.heap.size w' (Ab.grR a0 l1 l2) [.slice a (Ab.grR a0 l1 l2).length cap]) ∧ Below w.heap.size w w' := by
  have hgood : (eSlice eInt).good (Ab.grR a0 l1 l2) := grR_good a0 l1 l2
  refine Calls.mono (((implGreedyRepair_a (n := a0) ((eSlice eEdg).gd h1) ((eSlice eEdg).gd h2) hz1 hz2)).call (cs := [_, _, _]) ?_) ?_
  · simp only [RdSs]
    exact ⟨_, _, rfl, (RdS.ofVal _ _ rfl), ⟨_, _, rfl, ((eSlice eEdg).arg1 (x := l1) rfl h1), ⟨_, _, rfl, ((eSlice eEdg).arg1 (x := l2) rfl h2), rfl⟩⟩⟩
  · rintro e w' ⟨c, rfl, q1, q2⟩
    obtain ⟨F, ho, _⟩ := id ((eSlice eInt).own1 (x := Ab.grR a0 l1 l2) rfl hgood q1)
    have hq := (eSlice eInt).own1 (x := Ab.grR a0 l1 l2) rfl hgood q1
    obtain ⟨a, cap, e, _⟩ := ho
    injection e with e
    subst e
    exact ⟨⟨a, cap, rfl, hq⟩, q2⟩
theorem _root_.Go.Proofs.YtpoackngngdhlaaDoor.specGreedyRepair_c {a0 : Int} {a1 : Option Addr} {cap1 : Nat} {l1 : List Edg} {a2 : Option Addr} {cap2 : Nat} {l2 : List Edg} {w : World} (hz1 : l1.length ≤ 1048576) (hz2 : l2.length ≤ 1048576) (h1 : At (cSlice cEdg) w l1 [.slice a1 l1.length cap1]) (h2 : At (cSlice cEdg) w l2 [.slice a2 l2.length cap2]) (hg : Glob w := by exact trivial) :
    Calls Tryd.prog 12 #[.int .i64 a0, .slice a1 l1.length cap1, .slice a2 l2.length cap2] w fun e w' => (∃ a cap, e = .returned (.slice a (Ab.grR a0 l1 l2).length cap) ∧ Own (cSlice cInt) w.heap.size w' (Ab.grR a0 l1 l2) [.slice a (Ab.grR a0 l1 l2).length cap]) ∧ Below w.heap.size w w' := by
  have hgood : (eSlice eInt).good (Ab.grR a0 l1 l2) := grR_good a0 l1 l2
  refine Calls.mono (((specGreedyRepair_a (n := a0) ((eSlice eEdg).gd h1) ((eSlice eEdg).gd h2) hz1 hz2)).call (cs := [_, _, _]) ?_) ?_
  · simp only [RdSs]
    exact ⟨_, _, rfl, (RdS.ofVal _ _ rfl), ⟨_, _, rfl, ((eSlice eEdg).arg1 (x := l1) rfl h1), ⟨_, _, rfl, ((eSlice eEdg).arg1 (x := l2) rfl h2), rfl⟩⟩⟩
  · rintro e w' ⟨c, rfl, q1, q2⟩
    obtain ⟨F, ho, _⟩ := id ((eSlice eInt).own1 (x := Ab.grR a0 l1 l2) rfl hgood q1)
    have hq := (eSlice eInt).own1 (x := Ab.grR a0 l1 l2) rfl hgood q1
    obtain ⟨a, cap, e, _⟩ := ho
    injection e with e
    subst e
    exact ⟨⟨a, cap, rfl, hq⟩, q2⟩
end Go.Proofs.YtpoackngngdhlaaDoor.Ab

