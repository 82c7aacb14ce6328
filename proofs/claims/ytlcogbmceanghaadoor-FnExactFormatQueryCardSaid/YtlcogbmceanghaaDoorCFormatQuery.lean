/- FormatQuery: the contracts of the layer for the law. Written by gen/backc.py. -/
import Derived.Test.YtlcogbmceanghaaDoorFmtQy
open Go Go.Proofs Go.RowKit
namespace Go.Proofs.YtlcogbmceanghaaDoor.Ab
set_option linter.unusedSimpArgs false
set_option linter.unusedVariables false
set_option maxRecDepth 100000
theorem _root_.Go.Proofs.YtlcogbmceanghaaDoor.implFormatQuery_c {a0 : Option Addr} {cap0 : Nat} {l0 : List Rel} {x1 : Qry} {a1_1 : Option Addr} {cap1_1 : Nat} {a2_1 : Option Addr} {cap2_1 : Nat} {w : World} (hz0 : sizeRelationS l0 ≤ 1048576) (hz1 : sizeQuery x1 ≤ 1048576) (h0 : At (cSlice cRel) w l0 [.slice a0 l0.length cap0]) (h1 : At cQry w x1 [.int .i64 x1.vars, .slice a1_1 x1.atoms.length cap1_1, .slice a2_1 x1.free.length cap2_1]) (hg : Glob w := by exact trivial) :
    Calls Tryd.prog 14 #[.slice a0 l0.length cap0, .agg #[.int .i64 x1.vars, .slice a1_1 x1.atoms.length cap1_1, .slice a2_1 x1.free.length cap2_1]] w fun e w' => e = .returned (.string (Ab.qryB l0 x1)) ∧ Below w.heap.size w w' := by
  refine Calls.mono (((implFormatQuery_a ((eSlice eRel).gd h0) (eQry.gd h1))).call (cs := [_, _]) ?_) ?_
  · simp only [RdSs]
    exact ⟨_, _, rfl, ((eSlice eRel).arg1 (x := l0) rfl h0), ⟨_, _, rfl, (eQry.argA h1), rfl⟩⟩
  · rintro e w' ⟨c, rfl, q1, q2⟩
    exact ⟨by rw [q1.d], q2⟩
theorem _root_.Go.Proofs.YtlcogbmceanghaaDoor.specFormatQuery_c {a0 : Option Addr} {cap0 : Nat} {l0 : List Rel} {x1 : Qry} {a1_1 : Option Addr} {cap1_1 : Nat} {a2_1 : Option Addr} {cap2_1 : Nat} {w : World} (hz0 : sizeRelationS l0 ≤ 1048576) (hz1 : sizeQuery x1 ≤ 1048576) (h0 : At (cSlice cRel) w l0 [.slice a0 l0.length cap0]) (h1 : At cQry w x1 [.int .i64 x1.vars, .slice a1_1 x1.atoms.length cap1_1, .slice a2_1 x1.free.length cap2_1]) (hg : Glob w := by exact trivial) :
    Calls Tryd.prog 11 #[.slice a0 l0.length cap0, .agg #[.int .i64 x1.vars, .slice a1_1 x1.atoms.length cap1_1, .slice a2_1 x1.free.length cap2_1]] w fun e w' => e = .returned (.string (Ab.qryB l0 x1)) ∧ Below w.heap.size w w' := by
  refine Calls.mono (((specFormatQuery_a ((eSlice eRel).gd h0) (eQry.gd h1))).call (cs := [_, _]) ?_) ?_
  · simp only [RdSs]
    exact ⟨_, _, rfl, ((eSlice eRel).arg1 (x := l0) rfl h0), ⟨_, _, rfl, (eQry.argA h1), rfl⟩⟩
  · rintro e w' ⟨c, rfl, q1, q2⟩
    exact ⟨by rw [q1.d], q2⟩
end Go.Proofs.YtlcogbmceanghaaDoor.Ab

