/- RepairFromFacts: the contracts of the layer for the law. Written by gen/backc.py. -/
import Derived.Test.YtgipcnofonejcaaDoorRfg
import Derived.Test.YtgipcnofonejcaaDoorAbThr
open Go Go.Proofs Go.RowKit
namespace Go.Proofs.YtgipcnofonejcaaDoor.Ab
set_option linter.unusedSimpArgs false
set_option linter.unusedVariables false
set_option maxRecDepth 100000
theorem _root_.Go.Proofs.YtgipcnofonejcaaDoor.implRepairFromFacts_c {x0 : Dbs} {a0_0 : Option Addr} {cap0_0 : Nat} {a1_0 : Option Addr} {cap1_0 : Nat} {a1 : Option Addr} {cap1 : Nat} {l1 : List Int} {w : World} (hz0 : sizeDatabase x0 ≤ 1048576) (hz1 : l1.length ≤ 1048576) (h0 : At cDbs w x0 [.slice a0_0 x0.rels.length cap0_0, .slice a1_0 x0.facts.length cap1_0]) (h1 : At (cSlice cInt) w l1 [.slice a1 l1.length cap1]) (hg : Glob w := by exact trivial) :
    Calls Tryd.prog 24 #[.agg #[.slice a0_0 x0.rels.length cap0_0, .slice a1_0 x0.facts.length cap1_0], .slice a1 l1.length cap1] w fun e w' => (∃ a cap, e = .returned (.tuple #[.slice a (Ab.rffL x0 l1).length cap, .bool (Ab.rffOk x0 l1)]) ∧ Own (cSlice cInt) w.heap.size w' (Ab.rffL x0 l1) [.slice a (Ab.rffL x0 l1).length cap]) ∧ Below w.heap.size w w' := by
  have hgood : (eSlice eInt).good (Ab.rffL x0 l1) := rffL_good x0 l1
  refine Calls.mono (((implRepairFromFacts_a (eDbs.gd h0) ((eSlice eInt).gd h1) hz1)).call (cs := [_, _]) ?_) ?_
  · simp only [RdSs]
    exact ⟨_, _, rfl, (eDbs.argA h0), ⟨_, _, rfl, ((eSlice eInt).arg1 (x := l1) rfl h1), rfl⟩⟩
  · rintro e w' ⟨c, rfl, q1, q2⟩
    obtain ⟨v, rfl, hq⟩ := RdV.o2 (p := (eSlice eInt)) (x := Ab.rffL x0 l1) rfl hgood q1
    obtain ⟨F, ho, _⟩ := id hq
    obtain ⟨a, cap, e, _⟩ := ho
    injection e with e
    subst e
    exact ⟨⟨a, cap, rfl, hq⟩, q2⟩
theorem _root_.Go.Proofs.YtgipcnofonejcaaDoor.specRepairFromFacts_c {x0 : Dbs} {a0_0 : Option Addr} {cap0_0 : Nat} {a1_0 : Option Addr} {cap1_0 : Nat} {a1 : Option Addr} {cap1 : Nat} {l1 : List Int} {w : World} (hz0 : sizeDatabase x0 ≤ 1048576) (hz1 : l1.length ≤ 1048576) (h0 : At cDbs w x0 [.slice a0_0 x0.rels.length cap0_0, .slice a1_0 x0.facts.length cap1_0]) (h1 : At (cSlice cInt) w l1 [.slice a1 l1.length cap1]) (hg : Glob w := by exact trivial) :
    Calls Tryd.prog 22 #[.agg #[.slice a0_0 x0.rels.length cap0_0, .slice a1_0 x0.facts.length cap1_0], .slice a1 l1.length cap1] w fun e w' => (∃ a cap, e = .returned (.tuple #[.slice a (Ab.rffL x0 l1).length cap, .bool (Ab.rffOk x0 l1)]) ∧ Own (cSlice cInt) w.heap.size w' (Ab.rffL x0 l1) [.slice a (Ab.rffL x0 l1).length cap]) ∧ Below w.heap.size w w' := by
  have hgood : (eSlice eInt).good (Ab.rffL x0 l1) := rffL_good x0 l1
  refine Calls.mono (((specRepairFromFacts_a (eDbs.gd h0) ((eSlice eInt).gd h1) hz1)).call (cs := [_, _]) ?_) ?_
  · simp only [RdSs]
    exact ⟨_, _, rfl, (eDbs.argA h0), ⟨_, _, rfl, ((eSlice eInt).arg1 (x := l1) rfl h1), rfl⟩⟩
  · rintro e w' ⟨c, rfl, q1, q2⟩
    obtain ⟨v, rfl, hq⟩ := RdV.o2 (p := (eSlice eInt)) (x := Ab.rffL x0 l1) rfl hgood q1
    obtain ⟨F, ho, _⟩ := id hq
    obtain ⟨a, cap, e, _⟩ := ho
    injection e with e
    subst e
    exact ⟨⟨a, cap, rfl, hq⟩, q2⟩
end Go.Proofs.YtgipcnofonejcaaDoor.Ab

