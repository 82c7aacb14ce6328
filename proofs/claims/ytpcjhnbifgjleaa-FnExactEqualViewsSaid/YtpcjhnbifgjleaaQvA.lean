/- Queries, atoms, their variables: what is proved of them, for the layer. Written by gen/aba.py. -/
import Derived.Test.YtpcjhnbifgjleaaAbEnc
import Derived.Test.YtpcjhnbifgjleaaVarOne
import Derived.Test.YtpcjhnbifgjleaaQvOne
open Go Go.Proofs Go.RowKit
namespace Go.Proofs.Ytpcjhnbifgjleaa.Ab
set_option linter.unusedSimpArgs false
set_option linter.unusedVariables false
set_option maxRecDepth 100000
def atmS (x : Atm) : S := .a [.d (.v (.int .i64 x.rel)), .d (encIs x.terms)]
def qryS (x : Qry) : S := .a [.d (.v (.int .i64 x.vars)), .d (encAs x.atoms), .d (encIs x.free)]
theorem rels_cutQ {l : List Rel} (g : (eSlice eRel).good l) {w : World} {K : Nat → Nat → Prop} {ov : Nat → Value} {v : Value} (hK : ∀ b o, K b o → b < w.heap.size) (hr : RdS w (ghA K ov) (.d (encRs l)) v) :
    ∃ a cap, v = .slice a l.length cap ∧ At (cSlice cRel) w l [.slice a l.length cap] := by
  have h := (eSlice eRel).at1 (x := l) rfl g hK hr
  obtain ⟨a, cap, e, _⟩ := id h
  injection e with e
  subst e
  exact ⟨a, cap, rfl, h⟩
theorem atm_cut {x : Atm} (g : eAtm.good x) {w : World} {K : Nat → Nat → Prop} {ov : Nat → Value} {v : Value} (hK : ∀ b o, K b o → b < w.heap.size) (hr : RdS w (ghA K ov) (atmS x) v) :
    ∃ a cap, v = .agg #[.int .i64 x.rel, .slice a x.terms.length cap] ∧ At cAtm w x [.int .i64 x.rel, .slice a x.terms.length cap] := by
  obtain ⟨vs, rfl, h⟩ := eAtm.atA (x := x) g hK hr
  obtain ⟨a1, c1, rfl, h⟩ := cAtm_open h
  exact ⟨a1, c1, rfl, h⟩
theorem qry_cut {x : Qry} (g : eQry.good x) {w : World} {K : Nat → Nat → Prop} {ov : Nat → Value} {v : Value} (hK : ∀ b o, K b o → b < w.heap.size) (hr : RdS w (ghA K ov) (qryS x) v) :
    ∃ a1 c1 a2 c2, v = .agg #[.int .i64 x.vars, .slice a1 x.atoms.length c1, .slice a2 x.free.length c2] ∧ At cQry w x [.int .i64 x.vars, .slice a1 x.atoms.length c1, .slice a2 x.free.length c2] := by
  obtain ⟨vs, rfl, h⟩ := eQry.atA (x := x) g hK hr
  obtain ⟨a1, c1, a2, c2, rfl, h⟩ := cQry_open h
  exact ⟨a1, c1, a2, c2, rfl, h⟩
end Go.Proofs.Ytpcjhnbifgjleaa.Ab
