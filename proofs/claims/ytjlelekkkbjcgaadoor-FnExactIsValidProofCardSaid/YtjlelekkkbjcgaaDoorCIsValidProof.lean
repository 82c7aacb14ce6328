/- IsValidProof: the contracts of the layer for the law. Written by gen/backc.py. -/
import Derived.Test.YtjlelekkkbjcgaaDoorUprN
open Go Go.Proofs Go.RowKit
namespace Go.Proofs.YtjlelekkkbjcgaaDoor.Ab
set_option linter.unusedSimpArgs false
set_option linter.unusedVariables false
set_option maxRecDepth 100000
theorem _root_.Go.Proofs.YtjlelekkkbjcgaaDoor.implIsValidProof_c {a0 : Int} {a1 : Option Addr} {cap1 : Nat} {l1 : List (List Int)} {a2 : Option Addr} {cap2 : Nat} {l2 : List (List Int)} {w : World} (hz1 : sizeIntSS l1 ≤ 1048576) (hz2 : sizeIntSS l2 ≤ 1048576) (h1 : At (cSlice (cSlice cInt)) w l1 [.slice a1 l1.length cap1]) (h2 : At (cSlice (cSlice cInt)) w l2 [.slice a2 l2.length cap2]) (hg : Glob w := by exact trivial) :
    Calls Tryd.prog 19 #[.int .i64 a0, .slice a1 l1.length cap1, .slice a2 l2.length cap2] w fun e w' => e = .returned (.bool (Ab.prfV a0 l1 l2)) ∧ Below w.heap.size w w' := by
  refine Calls.mono (((implIsValidProof_a (n := a0) (sizeIntSS_len hz1) (sizeIntSS_each hz1) (fun b hb => (((eSlice (eSlice eInt)).gd h1).2 b hb).2) (sizeIntSS_len hz2) (sizeIntSS_each hz2) (fun b hb => (((eSlice (eSlice eInt)).gd h2).2 b hb).2))).call (cs := [_, _, _]) ?_) ?_
  · simp only [RdSs]
    exact ⟨_, _, rfl, (RdS.ofVal _ _ rfl), ⟨_, _, rfl, ((eSlice (eSlice eInt)).arg1 (x := l1) rfl h1), ⟨_, _, rfl, ((eSlice (eSlice eInt)).arg1 (x := l2) rfl h2), rfl⟩⟩⟩
  · rintro e w' ⟨c, rfl, q1, q2⟩
    exact ⟨by rw [q1.d], q2⟩
theorem _root_.Go.Proofs.YtjlelekkkbjcgaaDoor.specIsValidProof_c {a0 : Int} {a1 : Option Addr} {cap1 : Nat} {l1 : List (List Int)} {a2 : Option Addr} {cap2 : Nat} {l2 : List (List Int)} {w : World} (hz1 : sizeIntSS l1 ≤ 1048576) (hz2 : sizeIntSS l2 ≤ 1048576) (h1 : At (cSlice (cSlice cInt)) w l1 [.slice a1 l1.length cap1]) (h2 : At (cSlice (cSlice cInt)) w l2 [.slice a2 l2.length cap2]) (hg : Glob w := by exact trivial) :
    Calls Tryd.prog 18 #[.int .i64 a0, .slice a1 l1.length cap1, .slice a2 l2.length cap2] w fun e w' => e = .returned (.bool (Ab.prfV a0 l1 l2)) ∧ Below w.heap.size w w' := by
  refine Calls.mono (((specIsValidProof_a (n := a0) (sizeIntSS_len hz1) (sizeIntSS_each hz1) (fun b hb => (((eSlice (eSlice eInt)).gd h1).2 b hb).2) (sizeIntSS_len hz2) (sizeIntSS_each hz2) (fun b hb => (((eSlice (eSlice eInt)).gd h2).2 b hb).2))).call (cs := [_, _, _]) ?_) ?_
  · simp only [RdSs]
    exact ⟨_, _, rfl, (RdS.ofVal _ _ rfl), ⟨_, _, rfl, ((eSlice (eSlice eInt)).arg1 (x := l1) rfl h1), ⟨_, _, rfl, ((eSlice (eSlice eInt)).arg1 (x := l2) rfl h2), rfl⟩⟩⟩
  · rintro e w' ⟨c, rfl, q1, q2⟩
    exact ⟨by rw [q1.d], q2⟩
end Go.Proofs.YtjlelekkkbjcgaaDoor.Ab

