/- NthRepair: the contracts of the layer for the law. Written by gen/backc.py. -/
import Derived.Test.YtknnnebjjjldpabNth
import Derived.Test.YtknnnebjjjldpabAbTup
open Go Go.Proofs Go.RowKit
namespace Go.Proofs.Ytknnnebjjjldpab.Ab
set_option linter.unusedSimpArgs false
set_option linter.unusedVariables false
set_option maxRecDepth 100000
theorem _root_.Go.Proofs.Ytknnnebjjjldpab.implNthRepair_c {x0 : Dbs} {a0_0 : Option Addr} {cap0_0 : Nat} {a1_0 : Option Addr} {cap1_0 : Nat} {a1 : Int} {w : World} (hz0 : sizeDatabase x0 ≤ 1048576) (h0 : At cDbs w x0 [.slice a0_0 x0.rels.length cap0_0, .slice a1_0 x0.facts.length cap1_0]) :
    Calls Try.prog 32 #[.agg #[.slice a0_0 x0.rels.length cap0_0, .slice a1_0 x0.facts.length cap1_0], .int .i64 a1] w fun e w' => (∃ a cap, e = .returned (.tuple #[.slice a (nthL x0 a1).length cap, .bool (nthOk x0 a1)]) ∧ Own (cSlice cInt) w.heap.size w' (nthL x0 a1) [.slice a (nthL x0 a1).length cap]) ∧ Below w.heap.size w w' := by
  have hgood : (eSlice eInt).good (nthL x0 a1) := nthL_good x0 a1
  refine Calls.mono ((implNthRepair_a (eDbs.gd h0) a1).call (cs := [_, _]) ?_) ?_
  · simp only [RdSs]
    exact ⟨_, _, rfl, (eDbs.argA h0), ⟨_, _, rfl, (RdS.ofVal _ _ rfl), rfl⟩⟩
  · rintro e w' ⟨c, rfl, q1, q2⟩
    obtain ⟨v, rfl, hq⟩ := RdV.o2 (p := (eSlice eInt)) (x := nthL x0 a1) rfl hgood q1
    obtain ⟨F, ho, _⟩ := id hq
    obtain ⟨a, cap, e, _⟩ := ho
    injection e with e
    subst e
    exact ⟨⟨a, cap, rfl, hq⟩, q2⟩
theorem _root_.Go.Proofs.Ytknnnebjjjldpab.specNthRepair_c {x0 : Dbs} {a0_0 : Option Addr} {cap0_0 : Nat} {a1_0 : Option Addr} {cap1_0 : Nat} {a1 : Int} {w : World} (hz0 : sizeDatabase x0 ≤ 1048576) (h0 : At cDbs w x0 [.slice a0_0 x0.rels.length cap0_0, .slice a1_0 x0.facts.length cap1_0]) :
    Calls Try.prog 31 #[.agg #[.slice a0_0 x0.rels.length cap0_0, .slice a1_0 x0.facts.length cap1_0], .int .i64 a1] w fun e w' => (∃ a cap, e = .returned (.tuple #[.slice a (nthL x0 a1).length cap, .bool (nthOk x0 a1)]) ∧ Own (cSlice cInt) w.heap.size w' (nthL x0 a1) [.slice a (nthL x0 a1).length cap]) ∧ Below w.heap.size w w' := by
  have hgood : (eSlice eInt).good (nthL x0 a1) := nthL_good x0 a1
  refine Calls.mono ((specNthRepair_a (eDbs.gd h0) a1).call (cs := [_, _]) ?_) ?_
  · simp only [RdSs]
    exact ⟨_, _, rfl, (eDbs.argA h0), ⟨_, _, rfl, (RdS.ofVal _ _ rfl), rfl⟩⟩
  · rintro e w' ⟨c, rfl, q1, q2⟩
    obtain ⟨v, rfl, hq⟩ := RdV.o2 (p := (eSlice eInt)) (x := nthL x0 a1) rfl hgood q1
    obtain ⟨F, ho, _⟩ := id hq
    obtain ⟨a, cap, e, _⟩ := ho
    injection e with e
    subst e
    exact ⟨⟨a, cap, rfl, hq⟩, q2⟩
end Go.Proofs.Ytknnnebjjjldpab.Ab

