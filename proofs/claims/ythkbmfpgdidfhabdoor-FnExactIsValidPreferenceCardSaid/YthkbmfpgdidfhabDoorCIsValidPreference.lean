/- IsValidPreference: the contracts of the layer for the law. Written by gen/backc.py. -/
import Derived.Test.YthkbmfpgdidfhabDoorPrfM
open Go Go.Proofs Go.RowKit
namespace Go.Proofs.YthkbmfpgdidfhabDoor.Ab
set_option linter.unusedSimpArgs false
set_option linter.unusedVariables false
set_option maxRecDepth 100000
theorem _root_.Go.Proofs.YthkbmfpgdidfhabDoor.implIsValidPreference_c {a0 : Int} {a1 : Option Addr} {cap1 : Nat} {l1 : List Edg} {a2 : Option Addr} {cap2 : Nat} {l2 : List Edg} {w : World} (hz1 : l1.length ≤ 1048576) (hz2 : l2.length ≤ 1048576) (h1 : At (cSlice cEdg) w l1 [.slice a1 l1.length cap1]) (h2 : At (cSlice cEdg) w l2 [.slice a2 l2.length cap2]) (hg : Glob w := by exact trivial) :
    Calls Tryd.prog 20 #[.int .i64 a0, .slice a1 l1.length cap1, .slice a2 l2.length cap2] w fun e w' => e = .returned (.bool (Ab.prfOk a0 l1 l2)) ∧ Below w.heap.size w w' := by
  refine Calls.mono (((implIsValidPreference_a (n := a0) ((eSlice eEdg).gd h1) ((eSlice eEdg).gd h2) hz1 hz2)).call (cs := [_, _, _]) ?_) ?_
  · simp only [RdSs]
    exact ⟨_, _, rfl, (RdS.ofVal _ _ rfl), ⟨_, _, rfl, ((eSlice eEdg).arg1 (x := l1) rfl h1), ⟨_, _, rfl, ((eSlice eEdg).arg1 (x := l2) rfl h2), rfl⟩⟩⟩
  · rintro e w' ⟨c, rfl, q1, q2⟩
    exact ⟨by rw [q1.d], q2⟩
theorem _root_.Go.Proofs.YthkbmfpgdidfhabDoor.specIsValidPreference_c {a0 : Int} {a1 : Option Addr} {cap1 : Nat} {l1 : List Edg} {a2 : Option Addr} {cap2 : Nat} {l2 : List Edg} {w : World} (hz1 : l1.length ≤ 1048576) (hz2 : l2.length ≤ 1048576) (h1 : At (cSlice cEdg) w l1 [.slice a1 l1.length cap1]) (h2 : At (cSlice cEdg) w l2 [.slice a2 l2.length cap2]) (hg : Glob w := by exact trivial) :
    Calls Tryd.prog 19 #[.int .i64 a0, .slice a1 l1.length cap1, .slice a2 l2.length cap2] w fun e w' => e = .returned (.bool (Ab.prfOk a0 l1 l2)) ∧ Below w.heap.size w w' := by
  refine Calls.mono (((specIsValidPreference_a (n := a0) ((eSlice eEdg).gd h1) ((eSlice eEdg).gd h2) hz1 hz2)).call (cs := [_, _, _]) ?_) ?_
  · simp only [RdSs]
    exact ⟨_, _, rfl, (RdS.ofVal _ _ rfl), ⟨_, _, rfl, ((eSlice eEdg).arg1 (x := l1) rfl h1), ⟨_, _, rfl, ((eSlice eEdg).arg1 (x := l2) rfl h2), rfl⟩⟩⟩
  · rintro e w' ⟨c, rfl, q1, q2⟩
    exact ⟨by rw [q1.d], q2⟩
end Go.Proofs.YthkbmfpgdidfhabDoor.Ab

