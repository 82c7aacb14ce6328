/- EqualViews: the contracts of the layer for the law. Written by gen/backc.py. -/
import Derived.Test.YtpcjhnbifgjleaaVew
open Go Go.Proofs Go.RowKit
namespace Go.Proofs.Ytpcjhnbifgjleaa.Ab
set_option linter.unusedSimpArgs false
set_option linter.unusedVariables false
set_option maxRecDepth 100000
theorem _root_.Go.Proofs.Ytpcjhnbifgjleaa.implEqualViews_c {x0 : Vew} {a0_0 : Option Addr} {cap0_0 : Nat} {a1_0 : Option Addr} {cap1_0 : Nat} {a3_0 : Option Addr} {cap3_0 : Nat} {a4_0 : Option Addr} {cap4_0 : Nat} {a5_0 : Option Addr} {cap5_0 : Nat} {a6_0 : Option Addr} {cap6_0 : Nat} {x1 : Vew} {a0_1 : Option Addr} {cap0_1 : Nat} {a1_1 : Option Addr} {cap1_1 : Nat} {a3_1 : Option Addr} {cap3_1 : Nat} {a4_1 : Option Addr} {cap4_1 : Nat} {a5_1 : Option Addr} {cap5_1 : Nat} {a6_1 : Option Addr} {cap6_1 : Nat} {w : World} (hz0 : sizeView x0 ≤ 1048576) (hz1 : sizeView x1 ≤ 1048576) (h0 : At cVew w x0 [.slice a0_0 x0.db.rels.length cap0_0, .slice a1_0 x0.db.facts.length cap1_0, .int .i64 x0.qry.vars, .slice a3_0 x0.qry.atoms.length cap3_0, .slice a4_0 x0.qry.free.length cap4_0, .slice a5_0 x0.sure.length cap5_0, .slice a6_0 x0.open_.length cap6_0]) (h1 : At cVew w x1 [.slice a0_1 x1.db.rels.length cap0_1, .slice a1_1 x1.db.facts.length cap1_1, .int .i64 x1.qry.vars, .slice a3_1 x1.qry.atoms.length cap3_1, .slice a4_1 x1.qry.free.length cap4_1, .slice a5_1 x1.sure.length cap5_1, .slice a6_1 x1.open_.length cap6_1]) (hg : Glob w := by exact trivial) :
    Calls Try.prog 7 #[.agg #[.slice a0_0 x0.db.rels.length cap0_0, .slice a1_0 x0.db.facts.length cap1_0, .int .i64 x0.qry.vars, .slice a3_0 x0.qry.atoms.length cap3_0, .slice a4_0 x0.qry.free.length cap4_0, .slice a5_0 x0.sure.length cap5_0, .slice a6_0 x0.open_.length cap6_0], .agg #[.slice a0_1 x1.db.rels.length cap0_1, .slice a1_1 x1.db.facts.length cap1_1, .int .i64 x1.qry.vars, .slice a3_1 x1.qry.atoms.length cap3_1, .slice a4_1 x1.qry.free.length cap4_1, .slice a5_1 x1.sure.length cap5_1, .slice a6_1 x1.open_.length cap6_1]] w fun e w' => e = .returned (.bool (Ab.eqVew x0 x1)) ∧ Below w.heap.size w w' := by
  refine Calls.mono (((implEqualViews_a (eVew.gd h0) (eVew.gd h1))).call (cs := [_, _]) ?_) ?_
  · simp only [RdSs]
    exact ⟨_, _, rfl, (eVew.argA h0), ⟨_, _, rfl, (eVew.argA h1), rfl⟩⟩
  · rintro e w' ⟨c, rfl, q1, q2⟩
    exact ⟨by rw [q1.d], q2⟩
theorem _root_.Go.Proofs.Ytpcjhnbifgjleaa.specEqualViews_c {x0 : Vew} {a0_0 : Option Addr} {cap0_0 : Nat} {a1_0 : Option Addr} {cap1_0 : Nat} {a3_0 : Option Addr} {cap3_0 : Nat} {a4_0 : Option Addr} {cap4_0 : Nat} {a5_0 : Option Addr} {cap5_0 : Nat} {a6_0 : Option Addr} {cap6_0 : Nat} {x1 : Vew} {a0_1 : Option Addr} {cap0_1 : Nat} {a1_1 : Option Addr} {cap1_1 : Nat} {a3_1 : Option Addr} {cap3_1 : Nat} {a4_1 : Option Addr} {cap4_1 : Nat} {a5_1 : Option Addr} {cap5_1 : Nat} {a6_1 : Option Addr} {cap6_1 : Nat} {w : World} (hz0 : sizeView x0 ≤ 1048576) (hz1 : sizeView x1 ≤ 1048576) (h0 : At cVew w x0 [.slice a0_0 x0.db.rels.length cap0_0, .slice a1_0 x0.db.facts.length cap1_0, .int .i64 x0.qry.vars, .slice a3_0 x0.qry.atoms.length cap3_0, .slice a4_0 x0.qry.free.length cap4_0, .slice a5_0 x0.sure.length cap5_0, .slice a6_0 x0.open_.length cap6_0]) (h1 : At cVew w x1 [.slice a0_1 x1.db.rels.length cap0_1, .slice a1_1 x1.db.facts.length cap1_1, .int .i64 x1.qry.vars, .slice a3_1 x1.qry.atoms.length cap3_1, .slice a4_1 x1.qry.free.length cap4_1, .slice a5_1 x1.sure.length cap5_1, .slice a6_1 x1.open_.length cap6_1]) (hg : Glob w := by exact trivial) :
    Calls Try.prog 5 #[.agg #[.slice a0_0 x0.db.rels.length cap0_0, .slice a1_0 x0.db.facts.length cap1_0, .int .i64 x0.qry.vars, .slice a3_0 x0.qry.atoms.length cap3_0, .slice a4_0 x0.qry.free.length cap4_0, .slice a5_0 x0.sure.length cap5_0, .slice a6_0 x0.open_.length cap6_0], .agg #[.slice a0_1 x1.db.rels.length cap0_1, .slice a1_1 x1.db.facts.length cap1_1, .int .i64 x1.qry.vars, .slice a3_1 x1.qry.atoms.length cap3_1, .slice a4_1 x1.qry.free.length cap4_1, .slice a5_1 x1.sure.length cap5_1, .slice a6_1 x1.open_.length cap6_1]] w fun e w' => e = .returned (.bool (Ab.eqVew x0 x1)) ∧ Below w.heap.size w w' := by
  refine Calls.mono (((specEqualViews_a (eVew.gd h0) (eVew.gd h1))).call (cs := [_, _]) ?_) ?_
  · simp only [RdSs]
    exact ⟨_, _, rfl, (eVew.argA h0), ⟨_, _, rfl, (eVew.argA h1), rfl⟩⟩
  · rintro e w' ⟨c, rfl, q1, q2⟩
    exact ⟨by rw [q1.d], q2⟩
end Go.Proofs.Ytpcjhnbifgjleaa.Ab

