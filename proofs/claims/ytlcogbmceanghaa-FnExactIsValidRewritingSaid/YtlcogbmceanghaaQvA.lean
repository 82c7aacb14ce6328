/- Queries, atoms, their variables: what is proved of them, for the layer. Written by gen/aba.py. -/
import Derived.Test.YtlcogbmceanghaaAbEnc
import Derived.Test.YtlcogbmceanghaaVarOne
import Derived.Test.YtlcogbmceanghaaQvOne
open Go Go.Proofs Go.RowKit
namespace Go.Proofs.Ytlcogbmceanghaa.Ab
set_option linter.unusedSimpArgs false
set_option linter.unusedVariables false
set_option maxRecDepth 100000
def atmS (x : Atm) : S := .a [.d (.v (.int .i64 x.rel)), .d (encIs x.terms)]
def qryS (x : Qry) : S := .a [.d (.v (.int .i64 x.vars)), .d (encAs x.atoms), .d (encIs x.free)]
theorem rels_cutQ {l : List Rel} (g : (eSlice eRel).good l) {w : World} {K : Nat → Nat → Prop} {ov : Nat → Value} {v : Value} (hK : ∀ b o, K b o → b < w.heap.size) (hr : RdS w (ghA K ov) (.d (encRs l)) v) :
    ∃ a cap, v = .slice a l.length cap ∧ At (cSlice cRel) w l [.slice a l.length cap] := by
  have h := (eSlice eRel).at1 (x := l) rfl g hK hr
  obtain ⟨a, cap, e, _⟩ := id h
  injection e with e
  subst e
  exact ⟨a, cap, rfl, h⟩
theorem atm_cut {x : Atm} (g : eAtm.good x) {w : World} {K : Nat → Nat → Prop} {ov : Nat → Value} {v : Value} (hK : ∀ b o, K b o → b < w.heap.size) (hr : RdS w (ghA K ov) (atmS x) v) :
    ∃ a cap, v = .agg #[.int .i64 x.rel, .slice a x.terms.length cap] ∧ At cAtm w x [.int .i64 x.rel, .slice a x.terms.length cap] := by
  obtain ⟨vs, rfl, h⟩ := eAtm.atA (x := x) g hK hr
  obtain ⟨a1, c1, rfl, h⟩ := cAtm_open h
  exact ⟨a1, c1, rfl, h⟩
theorem qry_cut {x : Qry} (g : eQry.good x) {w : World} {K : Nat → Nat → Prop} {ov : Nat → Value} {v : Value} (hK : ∀ b o, K b o → b < w.heap.size) (hr : RdS w (ghA K ov) (qryS x) v) :
    ∃ a1 c1 a2 c2, v = .agg #[.int .i64 x.vars, .slice a1 x.atoms.length c1, .slice a2 x.free.length c2] ∧ At cQry w x [.int .i64 x.vars, .slice a1 x.atoms.length c1, .slice a2 x.free.length c2] := by
  obtain ⟨vs, rfl, h⟩ := eQry.atA (x := x) g hK hr
  obtain ⟨a1, c1, a2, c2, rfl, h⟩ := cQry_open h
  exact ⟨a1, c1, a2, c2, rfl, h⟩
theorem implKeyVariables_a {l : List Rel} {x : Atm} (gl : (eSlice eRel).good l) (gx : eAtm.good x) : AC Try.prog 33 [.d (encRs l), atmS x] (.o 0 (encIs (keyVarsL l x))) :=
  AC.own1 (p := eSlice eInt) Try.func33 rfl (by decide) rfl (fun w K cs ov hK hr => by
    simp only [RdSs] at hr
    obtain ⟨v0, _, rfl, q0, v1, _, rfl, q1, rfl⟩ := hr
    obtain ⟨u0_0, u0_1, rfl, h0⟩ := rels_cutQ gl hK q0
    obtain ⟨u1_0, u1_1, rfl, h1⟩ := atm_cut gx hK q1
    refine Calls.mono (implKeyVariables_c h0 h1) ?_
    rintro e w' ⟨⟨a, cap, he, hq⟩, hb⟩
    exact ⟨⟨_, he, hq⟩, hb⟩)
theorem implAtomVariables_a {x : Atm} (gx : eAtm.good x) : AC Try.prog 34 [atmS x] (.o 0 (encIs (varsL x.terms))) :=
  AC.own1 (p := eSlice eInt) Try.func34 rfl (by decide) rfl (fun w K cs ov hK hr => by
    simp only [RdSs] at hr
    obtain ⟨v0, _, rfl, q0, rfl⟩ := hr
    obtain ⟨u0_0, u0_1, rfl, h0⟩ := atm_cut gx hK q0
    refine Calls.mono (implAtomVariables_c h0) ?_
    rintro e w' ⟨⟨a, cap, he, hq⟩, hb⟩
    exact ⟨⟨_, he, hq⟩, hb⟩)
theorem specKeyVariables_a {l : List Rel} {x : Atm} (gl : (eSlice eRel).good l) (gx : eAtm.good x) : AC Try.prog 17 [.d (encRs l), atmS x] (.o 0 (encIs (keyVarsL l x))) :=
  AC.own1 (p := eSlice eInt) Try.func17 rfl (by decide) rfl (fun w K cs ov hK hr => by
    simp only [RdSs] at hr
    obtain ⟨v0, _, rfl, q0, v1, _, rfl, q1, rfl⟩ := hr
    obtain ⟨u0_0, u0_1, rfl, h0⟩ := rels_cutQ gl hK q0
    obtain ⟨u1_0, u1_1, rfl, h1⟩ := atm_cut gx hK q1
    refine Calls.mono (specKeyVariables_c h0 h1) ?_
    rintro e w' ⟨⟨a, cap, he, hq⟩, hb⟩
    exact ⟨⟨_, he, hq⟩, hb⟩)
theorem specAtomVariables_a {x : Atm} (gx : eAtm.good x) : AC Try.prog 18 [atmS x] (.o 0 (encIs (varsL x.terms))) :=
  AC.own1 (p := eSlice eInt) Try.func18 rfl (by decide) rfl (fun w K cs ov hK hr => by
    simp only [RdSs] at hr
    obtain ⟨v0, _, rfl, q0, rfl⟩ := hr
    obtain ⟨u0_0, u0_1, rfl, h0⟩ := atm_cut gx hK q0
    refine Calls.mono (specAtomVariables_c h0) ?_
    rintro e w' ⟨⟨a, cap, he, hq⟩, hb⟩
    exact ⟨⟨_, he, hq⟩, hb⟩)
theorem variablesOf_a {l : List Int} (gl : (eSlice eInt).good l) : AC Try.prog 43 [.d (encIs l)] (.o 0 (encIs (varsL l))) :=
  AC.own1 (p := eSlice eInt) Try.func43 rfl (by decide) rfl (fun w K cs ov hK hr => by
    simp only [RdSs] at hr
    obtain ⟨v0, _, rfl, q0, rfl⟩ := hr
    obtain ⟨u0_0, u0_1, rfl, h0⟩ := ints_cut gl hK q0
    refine Calls.mono (variablesOf_c h0) ?_
    rintro e w' ⟨⟨a, cap, he, hq⟩, hb⟩
    exact ⟨⟨_, he, hq⟩, hb⟩)
theorem l7Has_a {l : List Int} {x : Int} (gl : (eSlice eInt).good l) : AC Try.prog 27 [.d (encIs l), .d (.v (.int .i64 x))] (.d (.v (.bool (l.contains x)))) :=
  AC.plain Try.func27 rfl (by decide) rfl (fun w K cs ov hK hr => by
    simp only [RdSs] at hr
    obtain ⟨v0, _, rfl, q0, v1, _, rfl, q1, rfl⟩ := hr
    obtain ⟨u0_0, u0_1, rfl, h0⟩ := ints_cut gl hK q0
    have := q1.int
    subst this
    exact l7Has_c h0)
theorem containsI_a {l : List Int} {x : Int} (gl : (eSlice eInt).good l) : AC Try.prog 42 [.d (encIs l), .d (.v (.int .i64 x))] (.d (.v (.bool (l.contains x)))) :=
  AC.plain Try.func42 rfl (by decide) rfl (fun w K cs ov hK hr => by
    simp only [RdSs] at hr
    obtain ⟨v0, _, rfl, q0, v1, _, rfl, q1, rfl⟩ := hr
    obtain ⟨u0_0, u0_1, rfl, h0⟩ := ints_cut gl hK q0
    have := q1.int
    subst this
    exact containsI_c h0)
end Go.Proofs.Ytlcogbmceanghaa.Ab

