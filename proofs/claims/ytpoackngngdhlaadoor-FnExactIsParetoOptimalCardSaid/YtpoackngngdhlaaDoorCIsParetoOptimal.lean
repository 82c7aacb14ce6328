/- IsParetoOptimal: the contracts of the layer for the law. Written by gen/backc.py. -/
import Derived.Test.YtpoackngngdhlaaDoorPrfO
open Go Go.Proofs Go.RowKit
namespace Go.Proofs.YtpoackngngdhlaaDoor.Ab
set_option linter.unusedSimpArgs false
set_option linter.unusedVariables false
set_option maxRecDepth 100000
theorem _root_.Go.Proofs.YtpoackngngdhlaaDoor.implIsParetoOptimal_c {a0 : Int} {a1 : Option Addr} {cap1 : Nat} {l1 : List Edg} {a2 : Option Addr} {cap2 : Nat} {l2 : List Edg} {a3 : Option Addr} {cap3 : Nat} {l3 : List Int} {w : World} (hz1 : l1.length ≤ 1048576) (hz2 : l2.length ≤ 1048576) (hz3 : l3.length ≤ 1048576) (h1 : At (cSlice cEdg) w l1 [.slice a1 l1.length cap1]) (h2 : At (cSlice cEdg) w l2 [.slice a2 l2.length cap2]) (h3 : At (cSlice cInt) w l3 [.slice a3 l3.length cap3]) (hg : Glob w := by exact trivial) :
    Calls Tryd.prog 9 #[.int .i64 a0, .slice a1 l1.length cap1, .slice a2 l2.length cap2, .slice a3 l3.length cap3] w fun e w' => e = .returned (.bool (Ab.parOk a0 l1 l2 l3)) ∧ Below w.heap.size w w' := by
  refine Calls.mono (((implIsParetoOptimal_a (n := a0) ((eSlice eEdg).gd h1) ((eSlice eEdg).gd h2) ((eSlice eInt).gd h3) hz1 hz2 hz3)).call (cs := [_, _, _, _]) ?_) ?_
  · simp only [RdSs]
    exact ⟨_, _, rfl, (RdS.ofVal _ _ rfl), ⟨_, _, rfl, ((eSlice eEdg).arg1 (x := l1) rfl h1), ⟨_, _, rfl, ((eSlice eEdg).arg1 (x := l2) rfl h2), ⟨_, _, rfl, ((eSlice eInt).arg1 (x := l3) rfl h3), rfl⟩⟩⟩⟩
  · rintro e w' ⟨c, rfl, q1, q2⟩
    exact ⟨by rw [q1.d], q2⟩
theorem _root_.Go.Proofs.YtpoackngngdhlaaDoor.specIsParetoOptimal_c {a0 : Int} {a1 : Option Addr} {cap1 : Nat} {l1 : List Edg} {a2 : Option Addr} {cap2 : Nat} {l2 : List Edg} {a3 : Option Addr} {cap3 : Nat} {l3 : List Int} {w : World} (hz1 : l1.length ≤ 1048576) (hz2 : l2.length ≤ 1048576) (hz3 : l3.length ≤ 1048576) (h1 : At (cSlice cEdg) w l1 [.slice a1 l1.length cap1]) (h2 : At (cSlice cEdg) w l2 [.slice a2 l2.length cap2]) (h3 : At (cSlice cInt) w l3 [.slice a3 l3.length cap3]) (hg : Glob w := by exact trivial) :
    Calls Tryd.prog 6 #[.int .i64 a0, .slice a1 l1.length cap1, .slice a2 l2.length cap2, .slice a3 l3.length cap3] w fun e w' => e = .returned (.bool (Ab.parOk a0 l1 l2 l3)) ∧ Below w.heap.size w w' := by
  refine Calls.mono (((specIsParetoOptimal_a (n := a0) ((eSlice eEdg).gd h1) ((eSlice eEdg).gd h2) ((eSlice eInt).gd h3) hz1 hz2 hz3)).call (cs := [_, _, _, _]) ?_) ?_
  · simp only [RdSs]
    exact ⟨_, _, rfl, (RdS.ofVal _ _ rfl), ⟨_, _, rfl, ((eSlice eEdg).arg1 (x := l1) rfl h1), ⟨_, _, rfl, ((eSlice eEdg).arg1 (x := l2) rfl h2), ⟨_, _, rfl, ((eSlice eInt).arg1 (x := l3) rfl h3), rfl⟩⟩⟩⟩
  · rintro e w' ⟨c, rfl, q1, q2⟩
    exact ⟨by rw [q1.d], q2⟩
end Go.Proofs.YtpoackngngdhlaaDoor.Ab

