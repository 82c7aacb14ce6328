/- Functions of a database, for the layer. Written by gen/abdb.py. -/
import Derived.Test.YtknnnebjjjldpaaAbEnc
import Derived.Test.YtknnnebjjjldpaaBlockTwo
import Derived.Test.YtknnnebjjjldpaaIx
open Go Go.Proofs Go.RowKit
namespace Go.Proofs.Ytknnnebjjjldpaa.Ab
set_option linter.unusedSimpArgs false
set_option linter.unusedVariables false
set_option maxRecDepth 100000
theorem db_cut {d : Dbs} (g : eDbs.good d) {w : World} {K : Nat → Nat → Prop} {ov : Nat → Value} {v : Value} (hK : ∀ b o, K b o → b < w.heap.size) (hr : RdS w (ghA K ov) (dbS d) v) :
    ∃ a0 cap0 a1 cap1, v = .agg #[.slice a0 d.rels.length cap0, .slice a1 d.facts.length cap1] ∧ At cDbs w d [.slice a0 d.rels.length cap0, .slice a1 d.facts.length cap1] := by
  obtain ⟨vs, rfl, h⟩ := eDbs.atA (x := d) g hK hr
  obtain ⟨a0, c0, a1, c1, rfl, h⟩ := cDbs_open h
  exact ⟨a0, c0, a1, c1, rfl, h⟩
theorem db_arg {d : Dbs} {w : World} {cs : List Value} (h : At cDbs w d cs) {ov : Nat → Value} : RdS w (ghA (fun b _ => b < w.heap.size) ov) (dbS d) (.agg cs.toArray) := eDbs.argA h
theorem int_cut {k : IntKind} {x : Int} {w : World} {G : Gh} {v : Value} (h : RdS w G (.d (.v (.int k x))) v) : v = .int k x := h.int
theorem ints_cut {l : List Int} (g : (eSlice eInt).good l) {w : World} {K : Nat → Nat → Prop} {ov : Nat → Value} {v : Value} (hK : ∀ b o, K b o → b < w.heap.size) (hr : RdS w (ghA K ov) (.d (encIs l)) v) :
    ∃ a cap, v = .slice a l.length cap ∧ At (cSlice cInt) w l [.slice a l.length cap] := by
  have h := (eSlice eInt).at1 (x := l) rfl g hK hr
  obtain ⟨a, cap, e, _⟩ := id h
  injection e with e
  subst e
  exact ⟨a, cap, rfl, h⟩
theorem RdV.t2 {w w' : World} {K : Nat → Nat → Prop} {x y v : Value} (h : RdV w K w' (.t [.d (.v x), .d (.v y)]) v) : v = .tuple #[x, y] := by
  obtain ⟨F, ov, h1, _⟩ := h
  simp only [RdS, RdSs, RdD] at h1
  obtain ⟨cs, rfl, c1, c2, rfl, ⟨rfl, _⟩, c3, c4, rfl, ⟨rfl, _⟩, rfl⟩ := h1
  rfl
theorem implIsValidDatabase_a {d : Dbs} (g : eDbs.good d) : AC Try.prog 87 [dbS d] (.d (.v (.bool (validDb d)))) :=
  AC.plain Try.func87 rfl (by decide) rfl (fun w K cs ov hK hr => by
    simp only [RdSs] at hr
    obtain ⟨v, _, rfl, h, rfl⟩ := hr
    obtain ⟨a0, c0, a1, c1, rfl, h0⟩ := db_cut g hK h
    exact implIsValidDatabase_c h0)
theorem implBlocks_a {d : Dbs} (g : eDbs.good d) : AC Try.prog 101 [dbS d] (.o 0 (encIss (blocksL d))) :=
  AC.own1 (p := eSlice (eSlice eInt)) Try.func101 rfl (by decide) rfl (fun w K cs ov hK hr => by
    simp only [RdSs] at hr
    obtain ⟨v, _, rfl, h, rfl⟩ := hr
    obtain ⟨a0, c0, a1, c1, rfl, h0⟩ := db_cut g hK h
    refine Calls.mono (implBlocks_c h0) ?_
    rintro e w' ⟨⟨a, cap, he, hq⟩, hb⟩
    exact ⟨⟨_, he, hq⟩, hb⟩)
theorem implBlockSizes_a {d : Dbs} (g : eDbs.good d) : AC Try.prog 89 [dbS d] (.o 0 (encIs (sizesL d))) :=
  AC.own1 (p := eSlice eInt) Try.func89 rfl (by decide) rfl (fun w K cs ov hK hr => by
    simp only [RdSs] at hr
    obtain ⟨v, _, rfl, h, rfl⟩ := hr
    obtain ⟨a0, c0, a1, c1, rfl, h0⟩ := db_cut g hK h
    refine Calls.mono (implBlockSizes_c h0) ?_
    rintro e w' ⟨⟨a, cap, he, hq⟩, hb⟩
    exact ⟨⟨_, he, hq⟩, hb⟩)
theorem implConflictingFacts_a {d : Dbs} (g : eDbs.good d) : AC Try.prog 93 [dbS d] (.o 0 (encIs (confL d))) :=
  AC.own1 (p := eSlice eInt) Try.func93 rfl (by decide) rfl (fun w K cs ov hK hr => by
    simp only [RdSs] at hr
    obtain ⟨v, _, rfl, h, rfl⟩ := hr
    obtain ⟨a0, c0, a1, c1, rfl, h0⟩ := db_cut g hK h
    refine Calls.mono (implConflictingFacts_c h0) ?_
    rintro e w' ⟨⟨a, cap, he, hq⟩, hb⟩
    exact ⟨⟨_, he, hq⟩, hb⟩)
theorem specIsValidDatabase_a {d : Dbs} (g : eDbs.good d) : AC Try.prog 83 [dbS d] (.d (.v (.bool (validDb d)))) :=
  AC.plain Try.func83 rfl (by decide) rfl (fun w K cs ov hK hr => by
    simp only [RdSs] at hr
    obtain ⟨v, _, rfl, h, rfl⟩ := hr
    obtain ⟨a0, c0, a1, c1, rfl, h0⟩ := db_cut g hK h
    exact specIsValidDatabase_c h0)
theorem specBlocks_a {d : Dbs} (g : eDbs.good d) : AC Try.prog 99 [dbS d] (.o 0 (encIss (blocksL d))) :=
  AC.own1 (p := eSlice (eSlice eInt)) Try.func99 rfl (by decide) rfl (fun w K cs ov hK hr => by
    simp only [RdSs] at hr
    obtain ⟨v, _, rfl, h, rfl⟩ := hr
    obtain ⟨a0, c0, a1, c1, rfl, h0⟩ := db_cut g hK h
    refine Calls.mono (specBlocks_c h0) ?_
    rintro e w' ⟨⟨a, cap, he, hq⟩, hb⟩
    exact ⟨⟨_, he, hq⟩, hb⟩)
theorem specBlockSizes_a {d : Dbs} (g : eDbs.good d) : AC Try.prog 84 [dbS d] (.o 0 (encIs (sizesL d))) :=
  AC.own1 (p := eSlice eInt) Try.func84 rfl (by decide) rfl (fun w K cs ov hK hr => by
    simp only [RdSs] at hr
    obtain ⟨v, _, rfl, h, rfl⟩ := hr
    obtain ⟨a0, c0, a1, c1, rfl, h0⟩ := db_cut g hK h
    refine Calls.mono (specBlockSizes_c h0) ?_
    rintro e w' ⟨⟨a, cap, he, hq⟩, hb⟩
    exact ⟨⟨_, he, hq⟩, hb⟩)
theorem specConflictingFacts_a {d : Dbs} (g : eDbs.good d) : AC Try.prog 92 [dbS d] (.o 0 (encIs (confL d))) :=
  AC.own1 (p := eSlice eInt) Try.func92 rfl (by decide) rfl (fun w K cs ov hK hr => by
    simp only [RdSs] at hr
    obtain ⟨v, _, rfl, h, rfl⟩ := hr
    obtain ⟨a0, c0, a1, c1, rfl, h0⟩ := db_cut g hK h
    refine Calls.mono (specConflictingFacts_c h0) ?_
    rintro e w' ⟨⟨a, cap, he, hq⟩, hb⟩
    exact ⟨⟨_, he, hq⟩, hb⟩)
theorem areIndices_a {l : List Int} (g : (eSlice eInt).good l) (n : Int) : AC Try.prog 97 [.d (encIs l), .d (.v (.int .i64 n))] (.d (.v (.bool (setIx n l)))) :=
  AC.plain Try.func97 rfl (by decide) rfl (fun w K cs ov hK hr => by
    simp only [RdSs] at hr
    obtain ⟨v, _, rfl, h, v2, _, rfl, h2, rfl⟩ := hr
    obtain ⟨a, cap, rfl, h0⟩ := ints_cut g hK h
    have := int_cut h2
    subst this
    exact areIndices_c h0)
end Go.Proofs.Ytknnnebjjjldpaa.Ab

