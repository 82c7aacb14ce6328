/- ColumnSum: the contracts of the layer for the law. Written by gen/backc.py. -/
import Derived.Test.YtbdichnloeijfaaColS
open Go Go.Proofs Go.RowKit
namespace Go.Proofs.Ytbdichnloeijfaa.Ab
set_option linter.unusedSimpArgs false
set_option linter.unusedVariables false
set_option maxRecDepth 100000
theorem _root_.Go.Proofs.Ytbdichnloeijfaa.implColumnSum_c {x0 : Dbs} {a0_0 : Option Addr} {cap0_0 : Nat} {a1_0 : Option Addr} {cap1_0 : Nat} {a1 : Option Addr} {cap1 : Nat} {l1 : List Int} {a2 : Int} {a3 : Int} {w : World} (hz0 : sizeDatabase x0 ≤ 1048576) (hz1 : l1.length ≤ 1048576) (h0 : At cDbs w x0 [.slice a0_0 x0.rels.length cap0_0, .slice a1_0 x0.facts.length cap1_0]) (h1 : At (cSlice cInt) w l1 [.slice a1 l1.length cap1]) :
    Calls Try.prog 8 #[.agg #[.slice a0_0 x0.rels.length cap0_0, .slice a1_0 x0.facts.length cap1_0], .slice a1 l1.length cap1, .int .i64 a2, .int .i64 a3] w fun e w' => e = .returned (.int .i64 (colW x0 l1 a2 a3)) ∧ Below w.heap.size w w' := by
  refine Calls.mono ((implColumnSum_a (r := a2) (c := a3) (eDbs.gd h0) ((eSlice eInt).gd h1) hz1).call (cs := [_, _, _, _]) ?_) ?_
  · simp only [RdSs]
    exact ⟨_, _, rfl, (eDbs.argA h0), ⟨_, _, rfl, ((eSlice eInt).arg1 (x := l1) rfl h1), ⟨_, _, rfl, (RdS.ofVal _ _ rfl), ⟨_, _, rfl, (RdS.ofVal _ _ rfl), rfl⟩⟩⟩⟩
  · rintro e w' ⟨c, rfl, q1, q2⟩
    exact ⟨by rw [q1.d], q2⟩
theorem _root_.Go.Proofs.Ytbdichnloeijfaa.specColumnSum_c {x0 : Dbs} {a0_0 : Option Addr} {cap0_0 : Nat} {a1_0 : Option Addr} {cap1_0 : Nat} {a1 : Option Addr} {cap1 : Nat} {l1 : List Int} {a2 : Int} {a3 : Int} {w : World} (hz0 : sizeDatabase x0 ≤ 1048576) (hz1 : l1.length ≤ 1048576) (h0 : At cDbs w x0 [.slice a0_0 x0.rels.length cap0_0, .slice a1_0 x0.facts.length cap1_0]) (h1 : At (cSlice cInt) w l1 [.slice a1 l1.length cap1]) :
    Calls Try.prog 5 #[.agg #[.slice a0_0 x0.rels.length cap0_0, .slice a1_0 x0.facts.length cap1_0], .slice a1 l1.length cap1, .int .i64 a2, .int .i64 a3] w fun e w' => e = .returned (.int .i64 (colW x0 l1 a2 a3)) ∧ Below w.heap.size w w' := by
  refine Calls.mono ((specColumnSum_a (r := a2) (c := a3) (eDbs.gd h0) ((eSlice eInt).gd h1) hz1).call (cs := [_, _, _, _]) ?_) ?_
  · simp only [RdSs]
    exact ⟨_, _, rfl, (eDbs.argA h0), ⟨_, _, rfl, ((eSlice eInt).arg1 (x := l1) rfl h1), ⟨_, _, rfl, (RdS.ofVal _ _ rfl), ⟨_, _, rfl, (RdS.ofVal _ _ rfl), rfl⟩⟩⟩⟩
  · rintro e w' ⟨c, rfl, q1, q2⟩
    exact ⟨by rw [q1.d], q2⟩
end Go.Proofs.Ytbdichnloeijfaa.Ab

