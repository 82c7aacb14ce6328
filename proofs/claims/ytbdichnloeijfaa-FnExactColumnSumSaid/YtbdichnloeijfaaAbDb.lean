/- Functions of a database, for the layer. Written by gen/abdb.py. -/
import Derived.Test.YtbdichnloeijfaaAbEnc
import Derived.Test.YtbdichnloeijfaaBlockTwo
import Derived.Test.YtbdichnloeijfaaIx
open Go Go.Proofs Go.RowKit
namespace Go.Proofs.Ytbdichnloeijfaa.Ab
set_option linter.unusedSimpArgs false
set_option linter.unusedVariables false
set_option maxRecDepth 100000
theorem db_cut {d : Dbs} (g : eDbs.good d) {w : World} {K : Nat → Nat → Prop} {ov : Nat → Value} {v : Value} (hK : ∀ b o, K b o → b < w.heap.size) (hr : RdS w (ghA K ov) (dbS d) v) :
    ∃ a0 cap0 a1 cap1, v = .agg #[.slice a0 d.rels.length cap0, .slice a1 d.facts.length cap1] ∧ At cDbs w d [.slice a0 d.rels.length cap0, .slice a1 d.facts.length cap1] := by
  obtain ⟨vs, rfl, h⟩ := eDbs.atA (x := d) g hK hr
  obtain ⟨a0, c0, a1, c1, rfl, h⟩ := cDbs_open h
  exact ⟨a0, c0, a1, c1, rfl, h⟩
theorem db_arg {d : Dbs} {w : World} {cs : List Value} (h : At cDbs w d cs) {ov : Nat → Value} : RdS w (ghA (fun b _ => b < w.heap.size) ov) (dbS d) (.agg cs.toArray) := eDbs.argA h
theorem int_cut {k : IntKind} {x : Int} {w : World} {G : Gh} {v : Value} (h : RdS w G (.d (.v (.int k x))) v) : v = .int k x := h.int
theorem ints_cut {l : List Int} (g : (eSlice eInt).good l) {w : World} {K : Nat → Nat → Prop} {ov : Nat → Value} {v : Value} (hK : ∀ b o, K b o → b < w.heap.size) (hr : RdS w (ghA K ov) (.d (encIs l)) v) :
    ∃ a cap, v = .slice a l.length cap ∧ At (cSlice cInt) w l [.slice a l.length cap] := by
  have h := (eSlice eInt).at1 (x := l) rfl g hK hr
  obtain ⟨a, cap, e, _⟩ := id h
  injection e with e
  subst e
  exact ⟨a, cap, rfl, h⟩
theorem RdV.t2 {w w' : World} {K : Nat → Nat → Prop} {x y v : Value} (h : RdV w K w' (.t [.d (.v x), .d (.v y)]) v) : v = .tuple #[x, y] := by
  obtain ⟨F, ov, h1, _⟩ := h
  simp only [RdS, RdSs, RdD] at h1
  obtain ⟨cs, rfl, c1, c2, rfl, ⟨rfl, _⟩, c3, c4, rfl, ⟨rfl, _⟩, rfl⟩ := h1
  rfl
theorem implIsValidDatabase_a {d : Dbs} (g : eDbs.good d) : AC Try.prog 29 [dbS d] (.d (.v (.bool (validDb d)))) :=
  AC.plain Try.func29 rfl (by decide) rfl (fun w K cs ov hK hr => by
    simp only [RdSs] at hr
    obtain ⟨v, _, rfl, h, rfl⟩ := hr
    obtain ⟨a0, c0, a1, c1, rfl, h0⟩ := db_cut g hK h
    exact implIsValidDatabase_c h0)
theorem specIsValidDatabase_a {d : Dbs} (g : eDbs.good d) : AC Try.prog 25 [dbS d] (.d (.v (.bool (validDb d)))) :=
  AC.plain Try.func25 rfl (by decide) rfl (fun w K cs ov hK hr => by
    simp only [RdSs] at hr
    obtain ⟨v, _, rfl, h, rfl⟩ := hr
    obtain ⟨a0, c0, a1, c1, rfl, h0⟩ := db_cut g hK h
    exact specIsValidDatabase_c h0)
theorem areIndices_a {l : List Int} (g : (eSlice eInt).good l) (n : Int) : AC Try.prog 30 [.d (encIs l), .d (.v (.int .i64 n))] (.d (.v (.bool (setIx n l)))) :=
  AC.plain Try.func30 rfl (by decide) rfl (fun w K cs ov hK hr => by
    simp only [RdSs] at hr
    obtain ⟨v, _, rfl, h, v2, _, rfl, h2, rfl⟩ := hr
    obtain ⟨a, cap, rfl, h0⟩ := ints_cut g hK h
    have := int_cut h2
    subst this
    exact areIndices_c h0)
end Go.Proofs.Ytbdichnloeijfaa.Ab

