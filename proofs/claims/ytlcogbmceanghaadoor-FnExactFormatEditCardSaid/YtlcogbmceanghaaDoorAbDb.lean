/- Functions of a database, for the layer. Written by gen/abdb.py. -/
import Derived.Test.YtlcogbmceanghaaDoorAbEnc
import Derived.Test.YtlcogbmceanghaaDoorBlockTwo
import Derived.Test.YtlcogbmceanghaaDoorIx
open Go Go.Proofs Go.RowKit
namespace Go.Proofs.YtlcogbmceanghaaDoor.Ab
set_option linter.unusedSimpArgs false
set_option linter.unusedVariables false
set_option maxRecDepth 100000
theorem db_cut {d : Dbs} (g : eDbs.good d) {w : World} {K : Nat → Nat → Prop} {ov : Nat → Value} {v : Value} (hK : ∀ b o, K b o → b < w.heap.size) (hr : RdS w (ghA K ov) (dbS d) v) :
    ∃ a0 cap0 a1 cap1, v = .agg #[.slice a0 d.rels.length cap0, .slice a1 d.facts.length cap1] ∧ At cDbs w d [.slice a0 d.rels.length cap0, .slice a1 d.facts.length cap1] := by
  obtain ⟨vs, rfl, h⟩ := eDbs.atA (x := d) g hK hr
  obtain ⟨a0, c0, a1, c1, rfl, h⟩ := cDbs_open h
  exact ⟨a0, c0, a1, c1, rfl, h⟩
theorem db_arg {d : Dbs} {w : World} {cs : List Value} (h : At cDbs w d cs) {ov : Nat → Value} : RdS w (ghA (fun b _ => b < w.heap.size) ov) (dbS d) (.agg cs.toArray) := eDbs.argA h
theorem implIsValidDatabase_a {d : Dbs} (g : eDbs.good d) : AC Tryd.prog 80 [dbS d] (.d (.v (.bool (validDb d)))) :=
  AC.plain Tryd.func80 rfl (by decide) rfl (fun w K cs ov hK hr => by
    simp only [RdSs] at hr
    obtain ⟨v, _, rfl, h, rfl⟩ := hr
    obtain ⟨a0, c0, a1, c1, rfl, h0⟩ := db_cut g hK h
    exact implIsValidDatabase_c h0)
theorem specIsValidDatabase_a {d : Dbs} (g : eDbs.good d) : AC Tryd.prog 77 [dbS d] (.d (.v (.bool (validDb d)))) :=
  AC.plain Tryd.func77 rfl (by decide) rfl (fun w K cs ov hK hr => by
    simp only [RdSs] at hr
    obtain ⟨v, _, rfl, h, rfl⟩ := hr
    obtain ⟨a0, c0, a1, c1, rfl, h0⟩ := db_cut g hK h
    exact specIsValidDatabase_c h0)
theorem areIndices_a {l : List Int} (g : (eSlice eInt).good l) (n : Int) : AC Tryd.prog 101 [.d (encIs l), .d (.v (.int .i64 n))] (.d (.v (.bool (setIx n l)))) :=
  AC.plain Tryd.func101 rfl (by decide) rfl (fun w K cs ov hK hr => by
    simp only [RdSs] at hr
    obtain ⟨v, _, rfl, h, v2, _, rfl, h2, rfl⟩ := hr
    obtain ⟨a, cap, rfl, h0⟩ := ints_cut g hK h
    have := int_cut h2
    subst this
    exact areIndices_c h0)
end Go.Proofs.YtlcogbmceanghaaDoor.Ab

