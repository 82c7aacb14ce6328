/- KeyConflicts: the contracts of the layer for the law. Written by gen/backc.py. -/
import Derived.Test.YtknnnebjjjldpabKeyG
open Go Go.Proofs Go.RowKit
namespace Go.Proofs.Ytknnnebjjjldpab.Ab
set_option linter.unusedSimpArgs false
set_option linter.unusedVariables false
set_option maxRecDepth 100000
theorem _root_.Go.Proofs.Ytknnnebjjjldpab.implKeyConflicts_c {x0 : Dbs} {a0_0 : Option Addr} {cap0_0 : Nat} {a1_0 : Option Addr} {cap1_0 : Nat} {w : World} (hz0 : sizeDatabase x0 ≤ 1048576) (h0 : At cDbs w x0 [.slice a0_0 x0.rels.length cap0_0, .slice a1_0 x0.facts.length cap1_0]) :
    Calls Try.prog 39 #[.agg #[.slice a0_0 x0.rels.length cap0_0, .slice a1_0 x0.facts.length cap1_0]] w fun e w' => (∃ a cap, e = .returned (.slice a (kconfL x0).length cap) ∧ Own (cSlice cEdg) w.heap.size w' (kconfL x0) [.slice a (kconfL x0).length cap]) ∧ Below w.heap.size w w' := by
  have hgood : (eSlice eEdg).good (kconfL x0) := kconfL_good x0
  refine Calls.mono ((implKeyConflicts_a (eDbs.gd h0)).call (cs := [_]) ?_) ?_
  · simp only [RdSs]
    exact ⟨_, _, rfl, (eDbs.argA h0), rfl⟩
  · rintro e w' ⟨c, rfl, q1, q2⟩
    obtain ⟨F, ho, _⟩ := id ((eSlice eEdg).own1 (x := kconfL x0) rfl hgood q1)
    have hq := (eSlice eEdg).own1 (x := kconfL x0) rfl hgood q1
    obtain ⟨a, cap, e, _⟩ := ho
    injection e with e
    subst e
    exact ⟨⟨a, cap, rfl, hq⟩, q2⟩
theorem _root_.Go.Proofs.Ytknnnebjjjldpab.specKeyConflicts_c {x0 : Dbs} {a0_0 : Option Addr} {cap0_0 : Nat} {a1_0 : Option Addr} {cap1_0 : Nat} {w : World} (hz0 : sizeDatabase x0 ≤ 1048576) (h0 : At cDbs w x0 [.slice a0_0 x0.rels.length cap0_0, .slice a1_0 x0.facts.length cap1_0]) :
    Calls Try.prog 38 #[.agg #[.slice a0_0 x0.rels.length cap0_0, .slice a1_0 x0.facts.length cap1_0]] w fun e w' => (∃ a cap, e = .returned (.slice a (kconfL x0).length cap) ∧ Own (cSlice cEdg) w.heap.size w' (kconfL x0) [.slice a (kconfL x0).length cap]) ∧ Below w.heap.size w w' := by
  have hgood : (eSlice eEdg).good (kconfL x0) := kconfL_good x0
  refine Calls.mono ((specKeyConflicts_a (eDbs.gd h0)).call (cs := [_]) ?_) ?_
  · simp only [RdSs]
    exact ⟨_, _, rfl, (eDbs.argA h0), rfl⟩
  · rintro e w' ⟨c, rfl, q1, q2⟩
    obtain ⟨F, ho, _⟩ := id ((eSlice eEdg).own1 (x := kconfL x0) rfl hgood q1)
    have hq := (eSlice eEdg).own1 (x := kconfL x0) rfl hgood q1
    obtain ⟨a, cap, e, _⟩ := ho
    injection e with e
    subst e
    exact ⟨⟨a, cap, rfl, hq⟩, q2⟩
end Go.Proofs.Ytknnnebjjjldpab.Ab

