/- Functions of a database, for the layer. Written by gen/abdb.py. -/
import Derived.Test.YtpofglamcaikfaaAbEnc
import Derived.Test.YtpofglamcaikfaaBlockTwo
import Derived.Test.YtpofglamcaikfaaIx
open Go Go.Proofs Go.RowKit
namespace Go.Proofs.Ytpofglamcaikfaa.Ab
set_option linter.unusedSimpArgs false
set_option linter.unusedVariables false
set_option maxRecDepth 100000
theorem db_cut {d : Dbs} (g : eDbs.good d) {w : World} {K : Nat → Nat → Prop} {ov : Nat → Value} {v : Value} (hK : ∀ b o, K b o → b < w.heap.size) (hr : RdS w (ghA K ov) (dbS d) v) :
    ∃ a0 cap0 a1 cap1, v = .agg #[.slice a0 d.rels.length cap0, .slice a1 d.facts.length cap1] ∧ At cDbs w d [.slice a0 d.rels.length cap0, .slice a1 d.facts.length cap1] := by
  obtain ⟨vs, rfl, h⟩ := eDbs.atA (x := d) g hK hr
  obtain ⟨a0, c0, a1, c1, rfl, h⟩ := cDbs_open h
  exact ⟨a0, c0, a1, c1, rfl, h⟩
theorem db_arg {d : Dbs} {w : World} {cs : List Value} (h : At cDbs w d cs) {ov : Nat → Value} : RdS w (ghA (fun b _ => b < w.heap.size) ov) (dbS d) (.agg cs.toArray) := eDbs.argA h
theorem implIsValidDatabase_a {d : Dbs} (g : eDbs.good d) : AC Try.prog 29 [dbS d] (.d (.v (.bool (validDb d)))) :=
  AC.plain Try.func29 rfl (by decide) rfl (fun w K cs ov hK hr => by
    simp only [RdSs] at hr
    obtain ⟨v, _, rfl, h, rfl⟩ := hr
    obtain ⟨a0, c0, a1, c1, rfl, h0⟩ := db_cut g hK h
    exact implIsValidDatabase_c h0)
theorem implBlocks_a {d : Dbs} (g : eDbs.good d) : AC Try.prog 18 [dbS d] (.o 0 (encIss (blocksL d))) :=
  AC.own1 (p := eSlice (eSlice eInt)) Try.func18 rfl (by decide) rfl (fun w K cs ov hK hr => by
    simp only [RdSs] at hr
    obtain ⟨v, _, rfl, h, rfl⟩ := hr
    obtain ⟨a0, c0, a1, c1, rfl, h0⟩ := db_cut g hK h
    refine Calls.mono (implBlocks_c h0) ?_
    rintro e w' ⟨⟨a, cap, he, hq⟩, hb⟩
    exact ⟨⟨_, he, hq⟩, hb⟩)
theorem specIsValidDatabase_a {d : Dbs} (g : eDbs.good d) : AC Try.prog 25 [dbS d] (.d (.v (.bool (validDb d)))) :=
  AC.plain Try.func25 rfl (by decide) rfl (fun w K cs ov hK hr => by
    simp only [RdSs] at hr
    obtain ⟨v, _, rfl, h, rfl⟩ := hr
    obtain ⟨a0, c0, a1, c1, rfl, h0⟩ := db_cut g hK h
    exact specIsValidDatabase_c h0)
theorem specBlocks_a {d : Dbs} (g : eDbs.good d) : AC Try.prog 15 [dbS d] (.o 0 (encIss (blocksL d))) :=
  AC.own1 (p := eSlice (eSlice eInt)) Try.func15 rfl (by decide) rfl (fun w K cs ov hK hr => by
    simp only [RdSs] at hr
    obtain ⟨v, _, rfl, h, rfl⟩ := hr
    obtain ⟨a0, c0, a1, c1, rfl, h0⟩ := db_cut g hK h
    refine Calls.mono (specBlocks_c h0) ?_
    rintro e w' ⟨⟨a, cap, he, hq⟩, hb⟩
    exact ⟨⟨_, he, hq⟩, hb⟩)
end Go.Proofs.Ytpofglamcaikfaa.Ab
