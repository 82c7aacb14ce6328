/- FormatConstraint: the contracts of the layer for the law. Written by gen/backc.py. -/
import Derived.Test.YthkbmfpgdidfhaaDoorFmtK
open Go Go.Proofs Go.RowKit
namespace Go.Proofs.YthkbmfpgdidfhaaDoor.Ab
set_option linter.unusedSimpArgs false
set_option linter.unusedVariables false
set_option maxRecDepth 100000
theorem _root_.Go.Proofs.YthkbmfpgdidfhaaDoor.implFormatConstraint_c {x0 : Dbs} {a0_0 : Option Addr} {cap0_0 : Nat} {a1_0 : Option Addr} {cap1_0 : Nat} {x1 : Dcn}  {w : World} (hz0 : sizeDatabase x0 ≤ 1048576) (h0 : At cDbs w x0 [.slice a0_0 x0.rels.length cap0_0, .slice a1_0 x0.facts.length cap1_0]) (h1 : At cDcn w x1 [.int .i64 x1.r1, .int .i64 x1.r2, .int .i64 x1.j1, .int .i64 x1.j2, .int .i64 x1.c1, .int .i64 x1.c2, .int .i64 x1.cmp]) (hg : Glob w := by exact trivial) :
    Calls Tryd.prog 37 #[.agg #[.slice a0_0 x0.rels.length cap0_0, .slice a1_0 x0.facts.length cap1_0], .agg #[.int .i64 x1.r1, .int .i64 x1.r2, .int .i64 x1.j1, .int .i64 x1.j2, .int .i64 x1.c1, .int .i64 x1.c2, .int .i64 x1.cmp]] w fun e w' => e = .returned (.string (Ab.conB x0 x1)) ∧ Below w.heap.size w w' := by
  refine Calls.mono (((implFormatConstraint_a (eDbs.gd h0) (eDcn.gd h1))).call (cs := [_, _]) ?_) ?_
  · simp only [RdSs]
    exact ⟨_, _, rfl, (eDbs.argA h0), ⟨_, _, rfl, (eDcn.argA h1), rfl⟩⟩
  · rintro e w' ⟨c, rfl, q1, q2⟩
    exact ⟨by rw [q1.d], q2⟩
theorem _root_.Go.Proofs.YthkbmfpgdidfhaaDoor.specFormatConstraint_c {x0 : Dbs} {a0_0 : Option Addr} {cap0_0 : Nat} {a1_0 : Option Addr} {cap1_0 : Nat} {x1 : Dcn}  {w : World} (hz0 : sizeDatabase x0 ≤ 1048576) (h0 : At cDbs w x0 [.slice a0_0 x0.rels.length cap0_0, .slice a1_0 x0.facts.length cap1_0]) (h1 : At cDcn w x1 [.int .i64 x1.r1, .int .i64 x1.r2, .int .i64 x1.j1, .int .i64 x1.j2, .int .i64 x1.c1, .int .i64 x1.c2, .int .i64 x1.cmp]) (hg : Glob w := by exact trivial) :
    Calls Tryd.prog 34 #[.agg #[.slice a0_0 x0.rels.length cap0_0, .slice a1_0 x0.facts.length cap1_0], .agg #[.int .i64 x1.r1, .int .i64 x1.r2, .int .i64 x1.j1, .int .i64 x1.j2, .int .i64 x1.c1, .int .i64 x1.c2, .int .i64 x1.cmp]] w fun e w' => e = .returned (.string (Ab.conB x0 x1)) ∧ Below w.heap.size w w' := by
  refine Calls.mono (((specFormatConstraint_a (eDbs.gd h0) (eDcn.gd h1))).call (cs := [_, _]) ?_) ?_
  · simp only [RdSs]
    exact ⟨_, _, rfl, (eDbs.argA h0), ⟨_, _, rfl, (eDcn.argA h1), rfl⟩⟩
  · rintro e w' ⟨c, rfl, q1, q2⟩
    exact ⟨by rw [q1.d], q2⟩
end Go.Proofs.YthkbmfpgdidfhaaDoor.Ab

