/- Determines: the contracts of the layer for the law. Written by gen/backc.py. -/
import Derived.Test.YtgoofnhhhlncoabDoorCloY
open Go Go.Proofs Go.RowKit
namespace Go.Proofs.YtgoofnhhhlncoabDoor.Ab
set_option linter.unusedSimpArgs false
set_option linter.unusedVariables false
set_option maxRecDepth 100000
theorem _root_.Go.Proofs.YtgoofnhhhlncoabDoor.implDetermines_c {a0 : Option Addr} {cap0 : Nat} {l0 : List Rel} {x1 : Qry} {a1_1 : Option Addr} {cap1_1 : Nat} {a2_1 : Option Addr} {cap2_1 : Nat} {a2 : Option Addr} {cap2 : Nat} {l2 : List Int} {a3 : Option Addr} {cap3 : Nat} {l3 : List Int} {w : World} (hz0 : sizeRelationS l0 ≤ 1048576) (hz1 : sizeQuery x1 ≤ 1048576) (hz2 : l2.length ≤ 1048576) (hz3 : l3.length ≤ 1048576) (h0 : At (cSlice cRel) w l0 [.slice a0 l0.length cap0]) (h1 : At cQry w x1 [.int .i64 x1.vars, .slice a1_1 x1.atoms.length cap1_1, .slice a2_1 x1.free.length cap2_1]) (h2 : At (cSlice cInt) w l2 [.slice a2 l2.length cap2]) (h3 : At (cSlice cInt) w l3 [.slice a3 l3.length cap3]) (hg : Glob w := by exact trivial) :
    Calls Tryd.prog 27 #[.slice a0 l0.length cap0, .agg #[.int .i64 x1.vars, .slice a1_1 x1.atoms.length cap1_1, .slice a2_1 x1.free.length cap2_1], .slice a2 l2.length cap2, .slice a3 l3.length cap3] w fun e w' => e = .returned (.bool (Ab.detL l0 x1 l2 l3)) ∧ Below w.heap.size w w' := by
  refine Calls.mono ((implDetermines_a ((eSlice eRel).gd h0) (eQry.gd h1) ((eSlice eInt).gd h2) hz3).call (cs := [_, _, _, _]) ?_) ?_
  · simp only [RdSs]
    exact ⟨_, _, rfl, ((eSlice eRel).arg1 (x := l0) rfl h0), ⟨_, _, rfl, (eQry.argA h1), ⟨_, _, rfl, ((eSlice eInt).arg1 (x := l2) rfl h2), ⟨_, _, rfl, ((eSlice eInt).arg1 (x := l3) rfl h3), rfl⟩⟩⟩⟩
  · rintro e w' ⟨c, rfl, q1, q2⟩
    exact ⟨by rw [q1.d], q2⟩
theorem _root_.Go.Proofs.YtgoofnhhhlncoabDoor.specDetermines_c {a0 : Option Addr} {cap0 : Nat} {l0 : List Rel} {x1 : Qry} {a1_1 : Option Addr} {cap1_1 : Nat} {a2_1 : Option Addr} {cap2_1 : Nat} {a2 : Option Addr} {cap2 : Nat} {l2 : List Int} {a3 : Option Addr} {cap3 : Nat} {l3 : List Int} {w : World} (hz0 : sizeRelationS l0 ≤ 1048576) (hz1 : sizeQuery x1 ≤ 1048576) (hz2 : l2.length ≤ 1048576) (hz3 : l3.length ≤ 1048576) (h0 : At (cSlice cRel) w l0 [.slice a0 l0.length cap0]) (h1 : At cQry w x1 [.int .i64 x1.vars, .slice a1_1 x1.atoms.length cap1_1, .slice a2_1 x1.free.length cap2_1]) (h2 : At (cSlice cInt) w l2 [.slice a2 l2.length cap2]) (h3 : At (cSlice cInt) w l3 [.slice a3 l3.length cap3]) (hg : Glob w := by exact trivial) :
    Calls Tryd.prog 26 #[.slice a0 l0.length cap0, .agg #[.int .i64 x1.vars, .slice a1_1 x1.atoms.length cap1_1, .slice a2_1 x1.free.length cap2_1], .slice a2 l2.length cap2, .slice a3 l3.length cap3] w fun e w' => e = .returned (.bool (Ab.detL l0 x1 l2 l3)) ∧ Below w.heap.size w w' := by
  refine Calls.mono ((specDetermines_a ((eSlice eRel).gd h0) (eQry.gd h1) ((eSlice eInt).gd h2) hz3).call (cs := [_, _, _, _]) ?_) ?_
  · simp only [RdSs]
    exact ⟨_, _, rfl, ((eSlice eRel).arg1 (x := l0) rfl h0), ⟨_, _, rfl, (eQry.argA h1), ⟨_, _, rfl, ((eSlice eInt).arg1 (x := l2) rfl h2), ⟨_, _, rfl, ((eSlice eInt).arg1 (x := l3) rfl h3), rfl⟩⟩⟩⟩
  · rintro e w' ⟨c, rfl, q1, q2⟩
    exact ⟨by rw [q1.d], q2⟩
end Go.Proofs.YtgoofnhhhlncoabDoor.Ab

