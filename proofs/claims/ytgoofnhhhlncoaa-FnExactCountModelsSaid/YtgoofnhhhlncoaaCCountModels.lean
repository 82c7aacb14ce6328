/- CountModels: the contracts of the layer for the law. Written by gen/backc.py. -/
import Derived.Test.YtgoofnhhhlncoaaCntM
open Go Go.Proofs Go.RowKit
namespace Go.Proofs.Ytgoofnhhhlncoaa.Ab
set_option linter.unusedSimpArgs false
set_option linter.unusedVariables false
set_option maxRecDepth 100000
theorem _root_.Go.Proofs.Ytgoofnhhhlncoaa.implCountModels_c {a0 : Int} {a1 : Option Addr} {cap1 : Nat} {l1 : List (List Int)} {w : World} (hz1 : sizeIntSS l1 ≤ 1048576) (h1 : At (cSlice (cSlice cInt)) w l1 [.slice a1 l1.length cap1]) (hg : Glob w := by exact trivial) :
    Calls Try.prog 65 #[.int .i64 a0, .slice a1 l1.length cap1] w fun e w' => e = .returned (.int .i64 (Ab.cntL a0 l1)) ∧ Below w.heap.size w w' := by
  refine Calls.mono (((implCountModels_a a0 l1 (sizeIntSS_len hz1) (sizeIntSS_each hz1) (fun b hb => (((eSlice (eSlice eInt)).gd h1).2 b hb).2))).call (cs := [_, _]) ?_) ?_
  · simp only [RdSs]
    exact ⟨_, _, rfl, (RdS.ofVal _ _ rfl), ⟨_, _, rfl, ((eSlice (eSlice eInt)).arg1 (x := l1) rfl h1), rfl⟩⟩
  · rintro e w' ⟨c, rfl, q1, q2⟩
    exact ⟨by rw [q1.d], q2⟩
theorem _root_.Go.Proofs.Ytgoofnhhhlncoaa.specCountModels_c {a0 : Int} {a1 : Option Addr} {cap1 : Nat} {l1 : List (List Int)} {w : World} (hz1 : sizeIntSS l1 ≤ 1048576) (h1 : At (cSlice (cSlice cInt)) w l1 [.slice a1 l1.length cap1]) (hg : Glob w := by exact trivial) :
    Calls Try.prog 64 #[.int .i64 a0, .slice a1 l1.length cap1] w fun e w' => e = .returned (.int .i64 (Ab.cntL a0 l1)) ∧ Below w.heap.size w w' := by
  refine Calls.mono (((specCountModels_a a0 l1 (sizeIntSS_len hz1) (sizeIntSS_each hz1) (fun b hb => (((eSlice (eSlice eInt)).gd h1).2 b hb).2))).call (cs := [_, _]) ?_) ?_
  · simp only [RdSs]
    exact ⟨_, _, rfl, (RdS.ofVal _ _ rfl), ⟨_, _, rfl, ((eSlice (eSlice eInt)).arg1 (x := l1) rfl h1), rfl⟩⟩
  · rintro e w' ⟨c, rfl, q1, q2⟩
    exact ⟨by rw [q1.d], q2⟩
end Go.Proofs.Ytgoofnhhhlncoaa.Ab

