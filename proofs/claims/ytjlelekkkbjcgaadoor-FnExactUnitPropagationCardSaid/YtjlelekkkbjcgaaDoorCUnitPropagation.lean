/- UnitPropagation: the contracts of the layer for the law. Written by gen/backc.py. -/
import Derived.Test.YtjlelekkkbjcgaaDoorUprN
import Derived.Test.YtjlelekkkbjcgaaDoorAbThr
open Go Go.Proofs Go.RowKit
namespace Go.Proofs.YtjlelekkkbjcgaaDoor.Ab
set_option linter.unusedSimpArgs false
set_option linter.unusedVariables false
set_option maxRecDepth 100000
theorem _root_.Go.Proofs.YtjlelekkkbjcgaaDoor.implUnitPropagation_c {a0 : Int} {a1 : Option Addr} {cap1 : Nat} {l1 : List (List Int)} {a2 : Option Addr} {cap2 : Nat} {l2 : List Int} {w : World} (hz1 : sizeIntSS l1 ≤ 1048576) (hz2 : l2.length ≤ 1048576) (h1 : At (cSlice (cSlice cInt)) w l1 [.slice a1 l1.length cap1]) (h2 : At (cSlice cInt) w l2 [.slice a2 l2.length cap2]) (hg : Glob w := by exact trivial) :
    Calls Tryd.prog 10 #[.int .i64 a0, .slice a1 l1.length cap1, .slice a2 l2.length cap2] w fun e w' => (∃ a cap, e = .returned (.tuple #[.slice a (Ab.upL a0 l1 l2).length cap, .bool (Ab.upB a0 l1 l2)]) ∧ Own (cSlice cInt) w.heap.size w' (Ab.upL a0 l1 l2) [.slice a (Ab.upL a0 l1 l2).length cap]) ∧ Below w.heap.size w w' := by
  have hgood : (eSlice eInt).good (Ab.upL a0 l1 l2) := (upL_good (n := a0) (sizeIntSS_len hz1) hz2 (fun b hb => (((eSlice (eSlice eInt)).gd h1).2 b hb).2) ((eSlice eInt).gd h2).2).1
  refine Calls.mono (((implUnitPropagation_a (n := a0) (sizeIntSS_len hz1) (sizeIntSS_each hz1) (fun b hb => (((eSlice (eSlice eInt)).gd h1).2 b hb).2) hz2 ((eSlice eInt).gd h2).2)).call (cs := [_, _, _]) ?_) ?_
  · simp only [RdSs]
    exact ⟨_, _, rfl, (RdS.ofVal _ _ rfl), ⟨_, _, rfl, ((eSlice (eSlice eInt)).arg1 (x := l1) rfl h1), ⟨_, _, rfl, ((eSlice eInt).arg1 (x := l2) rfl h2), rfl⟩⟩⟩
  · rintro e w' ⟨c, rfl, q1, q2⟩
    obtain ⟨v, rfl, hq⟩ := RdV.o2 (p := (eSlice eInt)) (x := Ab.upL a0 l1 l2) rfl hgood q1
    obtain ⟨F, ho, _⟩ := id hq
    obtain ⟨a, cap, e, _⟩ := ho
    injection e with e
    subst e
    exact ⟨⟨a, cap, rfl, hq⟩, q2⟩
theorem _root_.Go.Proofs.YtjlelekkkbjcgaaDoor.specUnitPropagation_c {a0 : Int} {a1 : Option Addr} {cap1 : Nat} {l1 : List (List Int)} {a2 : Option Addr} {cap2 : Nat} {l2 : List Int} {w : World} (hz1 : sizeIntSS l1 ≤ 1048576) (hz2 : l2.length ≤ 1048576) (h1 : At (cSlice (cSlice cInt)) w l1 [.slice a1 l1.length cap1]) (h2 : At (cSlice cInt) w l2 [.slice a2 l2.length cap2]) (hg : Glob w := by exact trivial) :
    Calls Tryd.prog 7 #[.int .i64 a0, .slice a1 l1.length cap1, .slice a2 l2.length cap2] w fun e w' => (∃ a cap, e = .returned (.tuple #[.slice a (Ab.upL a0 l1 l2).length cap, .bool (Ab.upB a0 l1 l2)]) ∧ Own (cSlice cInt) w.heap.size w' (Ab.upL a0 l1 l2) [.slice a (Ab.upL a0 l1 l2).length cap]) ∧ Below w.heap.size w w' := by
  have hgood : (eSlice eInt).good (Ab.upL a0 l1 l2) := (upL_good (n := a0) (sizeIntSS_len hz1) hz2 (fun b hb => (((eSlice (eSlice eInt)).gd h1).2 b hb).2) ((eSlice eInt).gd h2).2).1
  refine Calls.mono (((specUnitPropagation_a (n := a0) (sizeIntSS_len hz1) (sizeIntSS_each hz1) (fun b hb => (((eSlice (eSlice eInt)).gd h1).2 b hb).2) hz2 ((eSlice eInt).gd h2).2)).call (cs := [_, _, _]) ?_) ?_
  · simp only [RdSs]
    exact ⟨_, _, rfl, (RdS.ofVal _ _ rfl), ⟨_, _, rfl, ((eSlice (eSlice eInt)).arg1 (x := l1) rfl h1), ⟨_, _, rfl, ((eSlice eInt).arg1 (x := l2) rfl h2), rfl⟩⟩⟩
  · rintro e w' ⟨c, rfl, q1, q2⟩
    obtain ⟨v, rfl, hq⟩ := RdV.o2 (p := (eSlice eInt)) (x := Ab.upL a0 l1 l2) rfl hgood q1
    obtain ⟨F, ho, _⟩ := id hq
    obtain ⟨a, cap, e, _⟩ := ho
    injection e with e
    subst e
    exact ⟨⟨a, cap, rfl, hq⟩, q2⟩
theorem upL_len {n : Int} {L : List (List Int)} {l : List Int} (hL : L.length ≤ 1048576) (hl : l.length ≤ 1048576) : (upL n L l).length ≤ 4611686018427000000 := by
  obtain ⟨h1, h2⟩ := unitsF_mem (L := L) (L.length + 1) l
  unfold upL units
  split <;> omega
end Go.Proofs.YtjlelekkkbjcgaaDoor.Ab

