/- MaximumIndependentSize: the contracts of the layer for the law. Written by gen/backc.py. -/
import Derived.Test.YteabehbpfhfljaaDoorMxsN
open Go Go.Proofs Go.RowKit
namespace Go.Proofs.YteabehbpfhfljaaDoor.Ab
set_option linter.unusedSimpArgs false
set_option linter.unusedVariables false
set_option maxRecDepth 100000
theorem _root_.Go.Proofs.YteabehbpfhfljaaDoor.implMaximumIndependentSize_c {a0 : Int} {a1 : Option Addr} {cap1 : Nat} {l1 : List Edg} {w : World} (hz1 : l1.length ≤ 1048576) (h1 : At (cSlice cEdg) w l1 [.slice a1 l1.length cap1]) (hg : Glob w := by exact trivial) :
    Calls Tryd.prog 26 #[.int .i64 a0, .slice a1 l1.length cap1] w fun e w' => e = .returned (.int .i64 (Ab.miN a0 l1)) ∧ Below w.heap.size w w' := by
  refine Calls.mono (((implMaximumIndependentSize_a (n := a0) ((eSlice eEdg).gd h1) hz1)).call (cs := [_, _]) ?_) ?_
  · simp only [RdSs]
    exact ⟨_, _, rfl, (RdS.ofVal _ _ rfl), ⟨_, _, rfl, ((eSlice eEdg).arg1 (x := l1) rfl h1), rfl⟩⟩
  · rintro e w' ⟨c, rfl, q1, q2⟩
    exact ⟨by rw [q1.d], q2⟩
theorem _root_.Go.Proofs.YteabehbpfhfljaaDoor.specMaximumIndependentSize_c {a0 : Int} {a1 : Option Addr} {cap1 : Nat} {l1 : List Edg} {w : World} (hz1 : l1.length ≤ 1048576) (h1 : At (cSlice cEdg) w l1 [.slice a1 l1.length cap1]) (hg : Glob w := by exact trivial) :
    Calls Tryd.prog 25 #[.int .i64 a0, .slice a1 l1.length cap1] w fun e w' => e = .returned (.int .i64 (Ab.miN a0 l1)) ∧ Below w.heap.size w w' := by
  refine Calls.mono (((specMaximumIndependentSize_a (n := a0) ((eSlice eEdg).gd h1) hz1)).call (cs := [_, _]) ?_) ?_
  · simp only [RdSs]
    exact ⟨_, _, rfl, (RdS.ofVal _ _ rfl), ⟨_, _, rfl, ((eSlice eEdg).arg1 (x := l1) rfl h1), rfl⟩⟩
  · rintro e w' ⟨c, rfl, q1, q2⟩
    exact ⟨by rw [q1.d], q2⟩
end Go.Proofs.YteabehbpfhfljaaDoor.Ab

