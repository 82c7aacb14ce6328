/- LargestConflicts: the contracts of the layer for the law. Written by gen/backc.py. -/
import Derived.Test.YtpofglamcaikfaaAtIn
import Derived.Test.YtpofglamcaikfaaLgcB
open Go Go.Proofs Go.RowKit
namespace Go.Proofs.Ytpofglamcaikfaa.Ab
set_option linter.unusedSimpArgs false
set_option linter.unusedVariables false
set_option maxRecDepth 100000
theorem _root_.Go.Proofs.Ytpofglamcaikfaa.implLargestConflicts_c {x0 : Dbs} {a0_0 : Option Addr} {cap0_0 : Nat} {a1_0 : Option Addr} {cap1_0 : Nat} {w : World} (hz0 : sizeDatabase x0 ≤ 1048576) (h0 : At cDbs w x0 [.slice a0_0 x0.rels.length cap0_0, .slice a1_0 x0.facts.length cap1_0]) (hg : Glob w := by exact trivial) :
    Calls Try.prog 7 #[.agg #[.slice a0_0 x0.rels.length cap0_0, .slice a1_0 x0.facts.length cap1_0]] w fun e w' => (∃ a cap, e = .returned (.slice a (Ab.lgcL x0).length cap) ∧ Own (cSlice cInt) w.heap.size w' (Ab.lgcL x0) [.slice a (Ab.lgcL x0).length cap]) ∧ Below w.heap.size w w' := by
  have hgood : (eSlice eInt).good (Ab.lgcL x0) := lgcL_good (eDbs.gd h0)
  refine Calls.mono (((implLargestConflicts_a (eDbs.gd h0))).call (cs := [_]) ?_) ?_
  · simp only [RdSs]
    exact ⟨_, _, rfl, (eDbs.argA h0), rfl⟩
  · rintro e w' ⟨c, rfl, q1, q2⟩
    obtain ⟨F, ho, _⟩ := id ((eSlice eInt).own1 (x := Ab.lgcL x0) rfl hgood q1)
    have hq := (eSlice eInt).own1 (x := Ab.lgcL x0) rfl hgood q1
    obtain ⟨a, cap, e, _⟩ := ho
    injection e with e
    subst e
    exact ⟨⟨a, cap, rfl, hq⟩, q2⟩
theorem _root_.Go.Proofs.Ytpofglamcaikfaa.specLargestConflicts_c {x0 : Dbs} {a0_0 : Option Addr} {cap0_0 : Nat} {a1_0 : Option Addr} {cap1_0 : Nat} {w : World} (hz0 : sizeDatabase x0 ≤ 1048576) (h0 : At cDbs w x0 [.slice a0_0 x0.rels.length cap0_0, .slice a1_0 x0.facts.length cap1_0]) (hg : Glob w := by exact trivial) :
    Calls Try.prog 5 #[.agg #[.slice a0_0 x0.rels.length cap0_0, .slice a1_0 x0.facts.length cap1_0]] w fun e w' => (∃ a cap, e = .returned (.slice a (Ab.lgcL x0).length cap) ∧ At (cSlice cInt) w' (Ab.lgcL x0) [.slice a (Ab.lgcL x0).length cap]) ∧ Below w.heap.size w w' := by
  have hgood : (eSlice eInt).good (Ab.lgcL x0) := lgcL_good (eDbs.gd h0)
  refine Calls.mono (((specLargestConflicts_a (eDbs.gd h0))).call (cs := [_]) ?_) ?_
  · simp only [RdSs]
    exact ⟨_, _, rfl, (eDbs.argA h0), rfl⟩
  · rintro e w' ⟨c, rfl, q1, q2⟩
    have hq := RdV.at1 (p := (eSlice eInt)) (x := Ab.lgcL x0) rfl hgood q1 q2.size
    have ho := hq
    obtain ⟨a, cap, e, _⟩ := ho
    injection e with e
    subst e
    exact ⟨⟨a, cap, rfl, hq⟩, q2⟩
end Go.Proofs.Ytpofglamcaikfaa.Ab

