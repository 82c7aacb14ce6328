/- RemoveAtom: the contracts of the layer for the law. Written by gen/backc.py. -/
import Derived.Test.YtgoofnhhhlncoaaRemQ
open Go Go.Proofs Go.RowKit
namespace Go.Proofs.Ytgoofnhhhlncoaa.Ab
set_option linter.unusedSimpArgs false
set_option linter.unusedVariables false
set_option maxRecDepth 100000
theorem _root_.Go.Proofs.Ytgoofnhhhlncoaa.implRemoveAtom_c {x0 : Qry} {a1_0 : Option Addr} {cap1_0 : Nat} {a2_0 : Option Addr} {cap2_0 : Nat} {a1 : Int} {w : World} (hz0 : sizeQuery x0 ≤ 1048576) (h0 : At cQry w x0 [.int .i64 x0.vars, .slice a1_0 x0.atoms.length cap1_0, .slice a2_0 x0.free.length cap2_0]) (hg : Glob w := by exact trivial) :
    Calls Try.prog 18 #[.agg #[.int .i64 x0.vars, .slice a1_0 x0.atoms.length cap1_0, .slice a2_0 x0.free.length cap2_0], .int .i64 a1] w fun e w' => (∃ p1 c1 p2 c2, e = .returned (.agg #[.int .i64 (Ab.remQ x0 a1).vars, .slice p1 (Ab.remQ x0 a1).atoms.length c1, .slice p2 (Ab.remQ x0 a1).free.length c2]) ∧ Own cQry w.heap.size w' (Ab.remQ x0 a1) [.int .i64 (Ab.remQ x0 a1).vars, .slice p1 (Ab.remQ x0 a1).atoms.length c1, .slice p2 (Ab.remQ x0 a1).free.length c2]) ∧ Below w.heap.size w w' := by
  have hgood : eQry.good (Ab.remQ x0 a1) := (remQ_good (eQry.gd h0) a1)
  refine Calls.mono (((implRemoveAtom_a (eQry.gd h0) a1 (qry_atoms hz0) (qry_free hz0) (qry_each hz0))).call (cs := [_, _]) ?_) ?_
  · simp only [RdSs]
    exact ⟨_, _, rfl, (eQry.argA h0), ⟨_, _, rfl, (RdS.ofVal _ _ rfl), rfl⟩⟩
  · rintro e w' ⟨c, rfl, q1, q2⟩
    obtain ⟨cs, rfl, hq⟩ := Enc.ownA (p := eQry) (x := Ab.remQ x0 a1) (by exact ⟨rfl, trivial, rfl, rfl, trivial⟩) hgood (by simp [S.oss, S.os]) q1
    obtain ⟨p1, c1, p2, c2, rfl, _⟩ := cQry_open hq.at
    exact ⟨⟨p1, c1, p2, c2, rfl, hq⟩, q2⟩
theorem _root_.Go.Proofs.Ytgoofnhhhlncoaa.specRemoveAtom_c {x0 : Qry} {a1_0 : Option Addr} {cap1_0 : Nat} {a2_0 : Option Addr} {cap2_0 : Nat} {a1 : Int} {w : World} (hz0 : sizeQuery x0 ≤ 1048576) (h0 : At cQry w x0 [.int .i64 x0.vars, .slice a1_0 x0.atoms.length cap1_0, .slice a2_0 x0.free.length cap2_0]) (hg : Glob w := by exact trivial) :
    Calls Try.prog 16 #[.agg #[.int .i64 x0.vars, .slice a1_0 x0.atoms.length cap1_0, .slice a2_0 x0.free.length cap2_0], .int .i64 a1] w fun e w' => (∃ p1 c1 p2 c2, e = .returned (.agg #[.int .i64 (Ab.remQ x0 a1).vars, .slice p1 (Ab.remQ x0 a1).atoms.length c1, .slice p2 (Ab.remQ x0 a1).free.length c2]) ∧ At cQry w' (Ab.remQ x0 a1) [.int .i64 (Ab.remQ x0 a1).vars, .slice p1 (Ab.remQ x0 a1).atoms.length c1, .slice p2 (Ab.remQ x0 a1).free.length c2]) ∧ Below w.heap.size w w' := by
  have hgood : eQry.good (Ab.remQ x0 a1) := (remQ_good (eQry.gd h0) a1)
  refine Calls.mono (((specRemoveAtom_a (eQry.gd h0) a1 (qry_atoms hz0) (qry_free hz0) (qry_each hz0))).call (cs := [_, _]) ?_) ?_
  · simp only [RdSs]
    exact ⟨_, _, rfl, (eQry.argA h0), ⟨_, _, rfl, (RdS.ofVal _ _ rfl), rfl⟩⟩
  · rintro e w' ⟨c, rfl, q1, q2⟩
    obtain ⟨cs, rfl, hq⟩ := RdV.atA eQry (x := Ab.remQ x0 a1) hgood q1 q2.size
    obtain ⟨p1, c1, p2, c2, rfl, _⟩ := cQry_open hq
    exact ⟨⟨p1, c1, p2, c2, rfl, hq⟩, q2⟩
end Go.Proofs.Ytgoofnhhhlncoaa.Ab

