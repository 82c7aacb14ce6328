/- AttackedVariables: the contracts of the layer for the law. Written by gen/backc.py. -/
import Derived.Test.YtgoofnhhhlncoabDoorCloY
open Go Go.Proofs Go.RowKit
namespace Go.Proofs.YtgoofnhhhlncoabDoor.Ab
set_option linter.unusedSimpArgs false
set_option linter.unusedVariables false
set_option maxRecDepth 100000
theorem _root_.Go.Proofs.YtgoofnhhhlncoabDoor.implAttackedVariables_c {a0 : Option Addr} {cap0 : Nat} {l0 : List Rel} {x1 : Qry} {a1_1 : Option Addr} {cap1_1 : Nat} {a2_1 : Option Addr} {cap2_1 : Nat} {a2 : Int} {w : World} (hz0 : sizeRelationS l0 ≤ 1048576) (hz1 : sizeQuery x1 ≤ 1048576) (h0 : At (cSlice cRel) w l0 [.slice a0 l0.length cap0]) (h1 : At cQry w x1 [.int .i64 x1.vars, .slice a1_1 x1.atoms.length cap1_1, .slice a2_1 x1.free.length cap2_1]) (hg : Glob w := by exact trivial) :
    Calls Tryd.prog 29 #[.slice a0 l0.length cap0, .agg #[.int .i64 x1.vars, .slice a1_1 x1.atoms.length cap1_1, .slice a2_1 x1.free.length cap2_1], .int .i64 a2] w fun e w' => (∃ a cap, e = .returned (.slice a (Ab.attL l0 x1 a2).length cap) ∧ Own (cSlice cInt) w.heap.size w' (Ab.attL l0 x1 a2) [.slice a (Ab.attL l0 x1 a2).length cap]) ∧ Below w.heap.size w w' := by
  have hgood : (eSlice eInt).good (Ab.attL l0 x1 a2) := attL_good l0 x1 a2
  refine Calls.mono ((implAttackedVariables_a ((eSlice eRel).gd h0) (eQry.gd h1) a2).call (cs := [_, _, _]) ?_) ?_
  · simp only [RdSs]
    exact ⟨_, _, rfl, ((eSlice eRel).arg1 (x := l0) rfl h0), ⟨_, _, rfl, (eQry.argA h1), ⟨_, _, rfl, (RdS.ofVal _ _ rfl), rfl⟩⟩⟩
  · rintro e w' ⟨c, rfl, q1, q2⟩
    obtain ⟨F, ho, _⟩ := id ((eSlice eInt).own1 (x := Ab.attL l0 x1 a2) rfl hgood q1)
    have hq := (eSlice eInt).own1 (x := Ab.attL l0 x1 a2) rfl hgood q1
    obtain ⟨a, cap, e, _⟩ := ho
    injection e with e
    subst e
    exact ⟨⟨a, cap, rfl, hq⟩, q2⟩
theorem _root_.Go.Proofs.YtgoofnhhhlncoabDoor.specAttackedVariables_c {a0 : Option Addr} {cap0 : Nat} {l0 : List Rel} {x1 : Qry} {a1_1 : Option Addr} {cap1_1 : Nat} {a2_1 : Option Addr} {cap2_1 : Nat} {a2 : Int} {w : World} (hz0 : sizeRelationS l0 ≤ 1048576) (hz1 : sizeQuery x1 ≤ 1048576) (h0 : At (cSlice cRel) w l0 [.slice a0 l0.length cap0]) (h1 : At cQry w x1 [.int .i64 x1.vars, .slice a1_1 x1.atoms.length cap1_1, .slice a2_1 x1.free.length cap2_1]) (hg : Glob w := by exact trivial) :
    Calls Tryd.prog 28 #[.slice a0 l0.length cap0, .agg #[.int .i64 x1.vars, .slice a1_1 x1.atoms.length cap1_1, .slice a2_1 x1.free.length cap2_1], .int .i64 a2] w fun e w' => (∃ a cap, e = .returned (.slice a (Ab.attL l0 x1 a2).length cap) ∧ Own (cSlice cInt) w.heap.size w' (Ab.attL l0 x1 a2) [.slice a (Ab.attL l0 x1 a2).length cap]) ∧ Below w.heap.size w w' := by
  have hgood : (eSlice eInt).good (Ab.attL l0 x1 a2) := attL_good l0 x1 a2
  refine Calls.mono ((specAttackedVariables_a ((eSlice eRel).gd h0) (eQry.gd h1) a2).call (cs := [_, _, _]) ?_) ?_
  · simp only [RdSs]
    exact ⟨_, _, rfl, ((eSlice eRel).arg1 (x := l0) rfl h0), ⟨_, _, rfl, (eQry.argA h1), ⟨_, _, rfl, (RdS.ofVal _ _ rfl), rfl⟩⟩⟩
  · rintro e w' ⟨c, rfl, q1, q2⟩
    obtain ⟨F, ho, _⟩ := id ((eSlice eInt).own1 (x := Ab.attL l0 x1 a2) rfl hgood q1)
    have hq := (eSlice eInt).own1 (x := Ab.attL l0 x1 a2) rfl hgood q1
    obtain ⟨a, cap, e, _⟩ := ho
    injection e with e
    subst e
    exact ⟨⟨a, cap, rfl, hq⟩, q2⟩
end Go.Proofs.YtgoofnhhhlncoabDoor.Ab

