/- TrimProof: the contracts of the layer for the law. Written by gen/backc.py. -/
import Derived.Test.YtlhdagpimcafaaaDoorAtIn
import Derived.Test.YtlhdagpimcafaaaDoorTrim
import Derived.Test.YtlhdagpimcafaaaDoorAbThr
open Go Go.Proofs Go.RowKit
namespace Go.Proofs.YtlhdagpimcafaaaDoor.Ab
set_option linter.unusedSimpArgs false
set_option linter.unusedVariables false
set_option maxRecDepth 100000
theorem _root_.Go.Proofs.YtlhdagpimcafaaaDoor.implTrimProof_c {a0 : Int} {a1 : Option Addr} {cap1 : Nat} {l1 : List (List Int)} {a2 : Option Addr} {cap2 : Nat} {l2 : List (List Int)} {w : World} (hz1 : sizeIntSS l1 ≤ 1048576) (hz2 : sizeIntSS l2 ≤ 1048576) (h1 : At (cSlice (cSlice cInt)) w l1 [.slice a1 l1.length cap1]) (h2 : At (cSlice (cSlice cInt)) w l2 [.slice a2 l2.length cap2]) (hg : Glob w := by exact trivial) :
    Calls Tryd.prog 15 #[.int .i64 a0, .slice a1 l1.length cap1, .slice a2 l2.length cap2] w fun e w' => (∃ a cap, e = .returned (.slice a (Ab.trL a0 l1 l2).length cap) ∧ Own (cSlice (cSlice cInt)) w.heap.size w' (Ab.trL a0 l1 l2) [.slice a (Ab.trL a0 l1 l2).length cap]) ∧ Below w.heap.size w w' := by
  have hgood : (eSlice (eSlice eInt)).good (Ab.trL a0 l1 l2) := trL_good ((eSlice (eSlice eInt)).gd h2)
  refine Calls.mono (((implTrimProof_a (n := a0) ((eSlice (eSlice eInt)).gd h1) ((eSlice (eSlice eInt)).gd h2) (sizeIntSS_len hz1) (sizeIntSS_each hz1) (sizeIntSS_len hz2) (sizeIntSS_each hz2))).call (cs := [_, _, _]) ?_) ?_
  · simp only [RdSs]
    exact ⟨_, _, rfl, (RdS.ofVal _ _ rfl), ⟨_, _, rfl, ((eSlice (eSlice eInt)).arg1 (x := l1) rfl h1), ⟨_, _, rfl, ((eSlice (eSlice eInt)).arg1 (x := l2) rfl h2), rfl⟩⟩⟩
  · rintro e w' ⟨c, rfl, q1, q2⟩
    obtain ⟨F, ho, _⟩ := id ((eSlice (eSlice eInt)).own1 (x := Ab.trL a0 l1 l2) rfl hgood q1)
    have hq := (eSlice (eSlice eInt)).own1 (x := Ab.trL a0 l1 l2) rfl hgood q1
    obtain ⟨a, cap, e, _⟩ := ho
    injection e with e
    subst e
    exact ⟨⟨a, cap, rfl, hq⟩, q2⟩
theorem _root_.Go.Proofs.YtlhdagpimcafaaaDoor.specTrimProof_c {a0 : Int} {a1 : Option Addr} {cap1 : Nat} {l1 : List (List Int)} {a2 : Option Addr} {cap2 : Nat} {l2 : List (List Int)} {w : World} (hz1 : sizeIntSS l1 ≤ 1048576) (hz2 : sizeIntSS l2 ≤ 1048576) (h1 : At (cSlice (cSlice cInt)) w l1 [.slice a1 l1.length cap1]) (h2 : At (cSlice (cSlice cInt)) w l2 [.slice a2 l2.length cap2]) (hg : Glob w := by exact trivial) :
    Calls Tryd.prog 14 #[.int .i64 a0, .slice a1 l1.length cap1, .slice a2 l2.length cap2] w fun e w' => (∃ a cap, e = .returned (.slice a (Ab.trL a0 l1 l2).length cap) ∧ At (cSlice (cSlice cInt)) w' (Ab.trL a0 l1 l2) [.slice a (Ab.trL a0 l1 l2).length cap]) ∧ Below w.heap.size w w' := by
  have hgood : (eSlice (eSlice eInt)).good (Ab.trL a0 l1 l2) := trL_good ((eSlice (eSlice eInt)).gd h2)
  refine Calls.mono (((specTrimProof_a (n := a0) ((eSlice (eSlice eInt)).gd h1) ((eSlice (eSlice eInt)).gd h2) (sizeIntSS_len hz1) (sizeIntSS_each hz1) (sizeIntSS_len hz2) (sizeIntSS_each hz2))).call (cs := [_, _, _]) ?_) ?_
  · simp only [RdSs]
    exact ⟨_, _, rfl, (RdS.ofVal _ _ rfl), ⟨_, _, rfl, ((eSlice (eSlice eInt)).arg1 (x := l1) rfl h1), ⟨_, _, rfl, ((eSlice (eSlice eInt)).arg1 (x := l2) rfl h2), rfl⟩⟩⟩
  · rintro e w' ⟨c, rfl, q1, q2⟩
    have hq := RdV.at1 (p := (eSlice (eSlice eInt))) (x := Ab.trL a0 l1 l2) rfl hgood q1 q2.size
    have ho := hq
    obtain ⟨a, cap, e, _⟩ := ho
    injection e with e
    subst e
    exact ⟨⟨a, cap, rfl, hq⟩, q2⟩
end Go.Proofs.YtlhdagpimcafaaaDoor.Ab

