/- UnsatCore: the contracts of the layer for the law. Written by gen/backc.py. -/
import Derived.Test.YtlhdagpimcafaaaDoorAtIn
import Derived.Test.YtlhdagpimcafaaaDoorCorOne
import Derived.Test.YtlhdagpimcafaaaDoorAbThr
open Go Go.Proofs Go.RowKit
namespace Go.Proofs.YtlhdagpimcafaaaDoor.Ab
set_option linter.unusedSimpArgs false
set_option linter.unusedVariables false
set_option maxRecDepth 100000
theorem _root_.Go.Proofs.YtlhdagpimcafaaaDoor.implUnsatCore_c {a0 : Int} {a1 : Option Addr} {cap1 : Nat} {l1 : List (List Int)} {a2 : Option Addr} {cap2 : Nat} {l2 : List (List Int)} {w : World} (hz1 : sizeIntSS l1 ≤ 1048576) (hz2 : sizeIntSS l2 ≤ 1048576) (h1 : At (cSlice (cSlice cInt)) w l1 [.slice a1 l1.length cap1]) (h2 : At (cSlice (cSlice cInt)) w l2 [.slice a2 l2.length cap2]) (hg : Glob w := by exact trivial) :
    Calls Tryd.prog 8 #[.int .i64 a0, .slice a1 l1.length cap1, .slice a2 l2.length cap2] w fun e w' => (∃ a cap, e = .returned (.slice a (Ab.ucL a0 l1 l2).length cap) ∧ Own (cSlice cInt) w.heap.size w' (Ab.ucL a0 l1 l2) [.slice a (Ab.ucL a0 l1 l2).length cap]) ∧ Below w.heap.size w w' := by
  have hgood : (eSlice eInt).good (Ab.ucL a0 l1 l2) := ucL_good (sizeIntSS_len hz1)
  refine Calls.mono (((implUnsatCore_a (n := a0) ((eSlice (eSlice eInt)).gd h1) ((eSlice (eSlice eInt)).gd h2) (sizeIntSS_len hz1) (sizeIntSS_each hz1) (sizeIntSS_len hz2) (sizeIntSS_each hz2))).call (cs := [_, _, _]) ?_) ?_
  · simp only [RdSs]
    exact ⟨_, _, rfl, (RdS.ofVal _ _ rfl), ⟨_, _, rfl, ((eSlice (eSlice eInt)).arg1 (x := l1) rfl h1), ⟨_, _, rfl, ((eSlice (eSlice eInt)).arg1 (x := l2) rfl h2), rfl⟩⟩⟩
  · rintro e w' ⟨c, rfl, q1, q2⟩
    obtain ⟨F, ho, _⟩ := id ((eSlice eInt).own1 (x := Ab.ucL a0 l1 l2) rfl hgood q1)
    have hq := (eSlice eInt).own1 (x := Ab.ucL a0 l1 l2) rfl hgood q1
    obtain ⟨a, cap, e, _⟩ := ho
    injection e with e
    subst e
    exact ⟨⟨a, cap, rfl, hq⟩, q2⟩
theorem _root_.Go.Proofs.YtlhdagpimcafaaaDoor.specUnsatCore_c {a0 : Int} {a1 : Option Addr} {cap1 : Nat} {l1 : List (List Int)} {a2 : Option Addr} {cap2 : Nat} {l2 : List (List Int)} {w : World} (hz1 : sizeIntSS l1 ≤ 1048576) (hz2 : sizeIntSS l2 ≤ 1048576) (h1 : At (cSlice (cSlice cInt)) w l1 [.slice a1 l1.length cap1]) (h2 : At (cSlice (cSlice cInt)) w l2 [.slice a2 l2.length cap2]) (hg : Glob w := by exact trivial) :
    Calls Tryd.prog 6 #[.int .i64 a0, .slice a1 l1.length cap1, .slice a2 l2.length cap2] w fun e w' => (∃ a cap, e = .returned (.slice a (Ab.ucL a0 l1 l2).length cap) ∧ At (cSlice cInt) w' (Ab.ucL a0 l1 l2) [.slice a (Ab.ucL a0 l1 l2).length cap]) ∧ Below w.heap.size w w' := by
  have hgood : (eSlice eInt).good (Ab.ucL a0 l1 l2) := ucL_good (sizeIntSS_len hz1)
  refine Calls.mono (((specUnsatCore_a (n := a0) ((eSlice (eSlice eInt)).gd h1) ((eSlice (eSlice eInt)).gd h2) (sizeIntSS_len hz1) (sizeIntSS_each hz1) (sizeIntSS_len hz2) (sizeIntSS_each hz2))).call (cs := [_, _, _]) ?_) ?_
  · simp only [RdSs]
    exact ⟨_, _, rfl, (RdS.ofVal _ _ rfl), ⟨_, _, rfl, ((eSlice (eSlice eInt)).arg1 (x := l1) rfl h1), ⟨_, _, rfl, ((eSlice (eSlice eInt)).arg1 (x := l2) rfl h2), rfl⟩⟩⟩
  · rintro e w' ⟨c, rfl, q1, q2⟩
    have hq := RdV.at1 (p := (eSlice eInt)) (x := Ab.ucL a0 l1 l2) rfl hgood q1 q2.size
    have ho := hq
    obtain ⟨a, cap, e, _⟩ := ho
    injection e with e
    subst e
    exact ⟨⟨a, cap, rfl, hq⟩, q2⟩
end Go.Proofs.YtlhdagpimcafaaaDoor.Ab

