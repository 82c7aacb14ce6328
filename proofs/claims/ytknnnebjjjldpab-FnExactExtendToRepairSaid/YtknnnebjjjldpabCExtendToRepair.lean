/- ExtendToRepair: the contracts of the layer for the law. Written by gen/backc.py. -/
import Derived.Test.YtknnnebjjjldpabExt
import Derived.Test.YtknnnebjjjldpabAbTup
open Go Go.Proofs Go.RowKit
namespace Go.Proofs.Ytknnnebjjjldpab.Ab
set_option linter.unusedSimpArgs false
set_option linter.unusedVariables false
set_option maxRecDepth 100000
theorem _root_.Go.Proofs.Ytknnnebjjjldpab.implExtendToRepair_c {x0 : Dbs} {a0_0 : Option Addr} {cap0_0 : Nat} {a1_0 : Option Addr} {cap1_0 : Nat} {a1 : Option Addr} {cap1 : Nat} {l1 : List Int} {w : World} (hz0 : sizeDatabase x0 ≤ 1048576) (hz1 : l1.length ≤ 1048576) (h0 : At cDbs w x0 [.slice a0_0 x0.rels.length cap0_0, .slice a1_0 x0.facts.length cap1_0]) (h1 : At (cSlice cInt) w l1 [.slice a1 l1.length cap1]) :
    Calls Try.prog 37 #[.agg #[.slice a0_0 x0.rels.length cap0_0, .slice a1_0 x0.facts.length cap1_0], .slice a1 l1.length cap1] w fun e w' => (∃ a cap, e = .returned (.tuple #[.slice a (extL x0 l1).length cap, .bool (partialR x0 l1)]) ∧ Own (cSlice cInt) w.heap.size w' (extL x0 l1) [.slice a (extL x0 l1).length cap]) ∧ Below w.heap.size w w' := by
  have hgood : (eSlice eInt).good (extL x0 l1) := extL_good x0 l1
  refine Calls.mono ((implExtendToRepair_a (eDbs.gd h0) ((eSlice eInt).gd h1) hz1).call (cs := [_, _]) ?_) ?_
  · simp only [RdSs]
    exact ⟨_, _, rfl, (eDbs.argA h0), ⟨_, _, rfl, ((eSlice eInt).arg1 (x := l1) rfl h1), rfl⟩⟩
  · rintro e w' ⟨c, rfl, q1, q2⟩
    obtain ⟨v, rfl, hq⟩ := RdV.o2 (p := (eSlice eInt)) (x := extL x0 l1) rfl hgood q1
    obtain ⟨F, ho, _⟩ := id hq
    obtain ⟨a, cap, e, _⟩ := ho
    injection e with e
    subst e
    exact ⟨⟨a, cap, rfl, hq⟩, q2⟩
theorem _root_.Go.Proofs.Ytknnnebjjjldpab.specExtendToRepair_c {x0 : Dbs} {a0_0 : Option Addr} {cap0_0 : Nat} {a1_0 : Option Addr} {cap1_0 : Nat} {a1 : Option Addr} {cap1 : Nat} {l1 : List Int} {w : World} (hz0 : sizeDatabase x0 ≤ 1048576) (hz1 : l1.length ≤ 1048576) (h0 : At cDbs w x0 [.slice a0_0 x0.rels.length cap0_0, .slice a1_0 x0.facts.length cap1_0]) (h1 : At (cSlice cInt) w l1 [.slice a1 l1.length cap1]) :
    Calls Try.prog 36 #[.agg #[.slice a0_0 x0.rels.length cap0_0, .slice a1_0 x0.facts.length cap1_0], .slice a1 l1.length cap1] w fun e w' => (∃ a cap, e = .returned (.tuple #[.slice a (extL x0 l1).length cap, .bool (partialR x0 l1)]) ∧ Own (cSlice cInt) w.heap.size w' (extL x0 l1) [.slice a (extL x0 l1).length cap]) ∧ Below w.heap.size w w' := by
  have hgood : (eSlice eInt).good (extL x0 l1) := extL_good x0 l1
  refine Calls.mono ((specExtendToRepair_a (eDbs.gd h0) ((eSlice eInt).gd h1) hz1).call (cs := [_, _]) ?_) ?_
  · simp only [RdSs]
    exact ⟨_, _, rfl, (eDbs.argA h0), ⟨_, _, rfl, ((eSlice eInt).arg1 (x := l1) rfl h1), rfl⟩⟩
  · rintro e w' ⟨c, rfl, q1, q2⟩
    obtain ⟨v, rfl, hq⟩ := RdV.o2 (p := (eSlice eInt)) (x := extL x0 l1) rfl hgood q1
    obtain ⟨F, ho, _⟩ := id hq
    obtain ⟨a, cap, e, _⟩ := ho
    injection e with e
    subst e
    exact ⟨⟨a, cap, rfl, hq⟩, q2⟩
end Go.Proofs.Ytknnnebjjjldpab.Ab

