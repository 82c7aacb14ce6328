/- QvOne: Qv1 Qv2 TyBo Qv3. -/
import Derived.Test.YtpcjhnbifgjleaaTyTre
import Derived.Test.YtpcjhnbifgjleaaTerm
import Derived.Test.YtpcjhnbifgjleaaIx
import Derived.Test.YtpcjhnbifgjleaaVarOne
import Derived.Deep.Cut
import Derived.Test.YtpcjhnbifgjleaaTyOne
import Derived.Test.YtpcjhnbifgjleaaRd
import Derived.Test.YtpcjhnbifgjleaaMarkOne
/- Chapter 11: isAtomOf, hasRelation, areAllUsed: the program's. -/
namespace Go.Proofs.Ytpcjhnbifgjleaa
open Go.RowKit
set_option linter.unusedVariables false
set_option maxRecDepth 100000

/-- A term of a query with so many variables. -/
def termIn (vars t : Int) : Bool := inB t (-10) (vars - 1)
/-- An atom of one of the relations. -/
def atomOk (l : List Rel) (vars : Int) (a : Atm) : Bool := inB a.rel 0 ((l.length : Int) - 1) && (decide ((a.terms.length : Int) = arityAt l a.rel) && a.terms.all (termIn vars))
theorem termIn_eq {vars t : Int} (h : 0 ≤ vars) : termIn vars t = (termOk t || inB t 0 (vars - 1)) := by
  unfold termIn termOk inB
  rw [Bool.eq_iff_iff]
  simp only [Bool.and_eq_true, Bool.or_eq_true, decide_eq_true_eq]
  omega
/-- An atom of this relation. -/
def relIs (r : Int) (y : Atm) : Bool := decide (y.rel = r)
/-- An atom with this term. -/
def termHas (v : Int) (y : Atm) : Bool := y.terms.contains v
/-- Every variable occurs in an atom. -/
def allUsed (q : Qry) : Bool := (List.range q.vars.toNat).all fun (v : Nat) => q.atoms.any (termHas (v : Int))
theorem all_range (n : Nat) (p : Nat → Bool) : (List.range (n + 1)).all p = ((List.range n).all p && p n) := by
  rw [List.range_succ, List.all_append]; simp
end Go.Proofs.Ytpcjhnbifgjleaa
namespace Go.Proofs.Ytpcjhnbifgjleaa
open Go.RowKit
set_option linter.unusedVariables false
set_option maxRecDepth 100000
theorem slice_take {α : Type} {c : Cod α} {B : Nat} {w : World} {l : List α} {a : Option Addr} {len cap : Nat} (h : (cSlice c).ok B w l [.slice a len cap]) (k : Nat) (hk : k ≤ l.length) :
    (cSlice c).ok B w (l.take k) [.slice a (l.take k).length cap] := by
  obtain ⟨a', cap', e, hm, h⟩ := h
  simp at e
  obtain ⟨rfl, rfl, rfl⟩ := e
  have hl : (l.take k).length = k := by simp; omega
  refine ⟨a, cap, rfl, by omega, fun j hj => ?_⟩
  have hjl : j < l.length := by omega
  obtain ⟨b, off, es, rfl, hb, he, hc⟩ := h j hjl
  exact ⟨b, off, es, rfl, hb, by rw [List.getElem_take]; exact he, hc⟩
/-- Atoms of different relations; those before are given. -/
def atomsOk (l : List Rel) (vars : Int) : List Atm → List Atm → Bool
  | _, [] => true
  | p, a :: r => atomOk l vars a && (!(p.any (relIs a.rel)) && atomsOk l vars (p ++ [a]) r)
theorem atomsOk_step (l : List Rel) (vars : Int) (q : List Atm) (k : Nat) (hk : k < q.length) : atomsOk l vars (q.take k) (q.drop k) = (atomOk l vars q[k] && (!((q.take k).any (relIs q[k].rel)) && atomsOk l vars (q.take (k + 1)) (q.drop (k + 1)))) := by
  rw [List.drop_eq_getElem_cons hk, List.take_succ_eq_append_getElem hk]; rfl
/-- A valid query. -/
def validQ (l : List Rel) (q : Qry) : Bool := validRels l && (inB q.vars 0 4 && (inB (q.atoms.length : Int) 1 3 && (atomsOk l q.vars [] q.atoms && (allUsed q && setIx q.vars q.free))))
end Go.Proofs.Ytpcjhnbifgjleaa
namespace Go.Proofs.Ytpcjhnbifgjleaa
open Go.RowKit
set_option linter.unusedVariables false
set_option maxRecDepth 100000
def bv (x : Bool) : Value := .bool x
/-- A slice of booleans: element j. -/
theorem bools_at {B : Nat} {w : World} {l : List Bool} {a : Option Addr} {len cap : Nat} (h : (cSlice cBool).ok B w l [.slice a len cap]) (j : Nat) (hj : j < l.length) :
    ∃ b off, a = some ⟨b, off, none⟩ ∧ b < B ∧ w.cell? ⟨b, off + j, none⟩ = some (.bool l[j]) := by
  obtain ⟨b, off, es, rfl, hb, he, hc⟩ := slice_at h j hj
  obtain rfl := he
  exact ⟨b, off, rfl, hb, by simpa [cBool] using hc 0 (by decide)⟩
/-- The row when k numbers are written: the first k, then zeros. -/
def doneB (l : List Bool) (k n : Nat) : List Value := (l.take k).map bv ++ List.replicate (n - k) (bv false)
theorem doneB_step (l : List Bool) (k n : Nat) (hn : l.length = n) (hk : k < n) (hkl : k < l.length) : (doneB l k n).set k (.bool l[k]) = doneB l (k + 1) n := by
  unfold doneB
  have e1 : n - k = (n - (k + 1)) + 1 := by omega
  have e2 : ((l.take k).map bv).length = k := by simp; omega
  rw [e1, List.replicate_succ, List.set_append_right _ _ (by omega), e2, Nat.sub_self, List.set_cons_zero, List.take_succ_eq_append_getElem hkl, List.map_append]
  simp [bv]
theorem doneB_all (l : List Bool) (n : Nat) (h : l.length = n) : doneB l n n = l.map bv := by subst h; simp [doneB]
theorem doneB_at (l : List Bool) (k n : Nat) (hn : l.length = n) (hk : k < n) : (doneB l k n)[k]? = some (.bool false) := by
  have e1 : n - k = (n - (k + 1)) + 1 := by omega
  have e2 : ((l.take k).map bv).length = k := by simp; omega
  unfold doneB
  rw [e1, List.replicate_succ, List.getElem?_append_right (by omega), e2]
  simp [bv]
theorem made_bools (n : Nat) (l : List Bool) : (madeCells #[.bool false] n).toList = doneB l 0 n := by
  unfold doneB madeCells
  apply List.ext_getElem
  · simp
  · intro i h1 h2
    simp [bv, Nat.mod_one]
theorem flat_bools (l : List Bool) : (l.map fun x => [bv x]).flatten = l.map bv := by
  induction l with
  | nil => rfl
  | cons x l ih => simp [ih]
theorem Try.infoBo : (Try.prog.info? 4).map (fun i => (i.zero, i.size, i.bytes)) = some (some (.bool false), 1, 1) := by kernel_rfl
/-- A row of numbers of the call's own. -/
theorem own_bools {w : World} {base : Nat} {e : TypeId} {v : Value} {n : Nat} {l : List Bool} (h : w.ownsRow base e 1 v n (l.map bv)) : Own (cSlice cBool) base w l [v] := by
  have hn : l.length = n := by simpa using h.1
  subst hn
  rcases h.2 with ⟨rfl, h0⟩ | ⟨g, cap, cur, rfl, hb, hg, h1, h2, _⟩
  · obtain rfl := List.eq_nil_of_length_eq_zero h0
    exact Own.nil _ _
  · exact Own.slice (c := cBool) (F := []) (css := l.map fun x => [bv x]) (ownL_flat (c := cBool) (fun x => [bv x]) w l (fun x hx => ⟨rfl, rfl⟩)) (by rw [flat_bools]; exact h) (by simp) (by omega)
theorem Try.cells_bool : Try.prog.cellsOf 4 = 1 := by kernel_rfl
section
open Go.Deep
variable {H : Type} {enc : TypeId × Value → H} {P : Program} {w : World} {base : Nat} {spare : Nat → Bool} {held : Bool}
theorem rd_bool {t : TypeId} (ht : P.underlying t = some .bool) {fuel : Nat} {cs : List Value} {x : DataW H × List MemPlace} (h : DataW.trod enc P w base spare held fuel t cs = some x) : ∃ y, cBool.ok w.heap.size w y cs := by
  obtain ⟨b, e, _⟩ := DataW.trod_bool ht h
  exact ⟨b, e⟩
end
def markB (k : Nat) (l : List Bool) : List Bool := markL (fun k _ => decide (k % 3 = 0)) (fun _ => 1) k l
theorem markB_length (k : Nat) (l : List Bool) : (markB k l).length = l.length := markL_length _ _ _ _
end Go.Proofs.Ytpcjhnbifgjleaa
namespace Go.Proofs.Ytpcjhnbifgjleaa
open Go.RowKit
set_option linter.unusedVariables false
set_option maxRecDepth 100000
/-- Four marks in cells of the call's own. -/
def MetOk (w : World) (g : Nat) (M : Nat → Bool) : Prop := g < w.heap.size ∧ ∀ v, v < 4 → w.cell? ⟨g, v, none⟩ = some (.bool (M v)) ∧ w.frozen? ⟨g, v, none⟩ = false
theorem MetOk.next {w w' : World} {g : Nat} {M : Nat → Bool} (h : MetOk w g M) (hb : Below w.heap.size w w') : MetOk w' g M :=
  ⟨Nat.lt_of_lt_of_le h.1 hb.size, fun v hv => ⟨(hb.cell (p := ⟨g, v, none⟩) h.1).trans (h.2 v hv).1, (hb.frozen (p := ⟨g, v, none⟩) h.1).trans (h.2 v hv).2⟩⟩
theorem MetOk.set {w : World} {g : Nat} {M : Nat → Bool} (h : MetOk w g M) (p : Nat) (hp : p < 4) : MetOk (w.setCell ⟨g, p, none⟩ (.bool true)) g (fun v => M v || decide (v = p)) := by
  refine ⟨by have := h.1; simpa [World.setCell] using this, fun v hv => ⟨?_, by rw [World.frozen?_setCell]; exact (h.2 v hv).2⟩⟩
  show _ = some (Value.bool (M v || decide (v = p)))
  by_cases e : v = p
  · rw [decide_eq_true e, Bool.or_true]
    subst e
    exact World.cell?_setCell_same _ _ _ (h.2 v hv).1
  · rw [decide_eq_false e, Bool.or_false]
    exact (World.cell?_setCell_other _ _ _ _ (by simp)).trans (h.2 v hv).1
theorem MetOk.congr {w : World} {g : Nat} {M N : Nat → Bool} (h : MetOk w g M) (e : ∀ v, v < 4 → M v = N v) : MetOk w g N :=
  ⟨h.1, fun v hv => by rw [← e v hv]; exact h.2 v hv⟩
/-- What is marked when k atoms and j terms of the next one are through. -/
def metF (ats : List Atm) (k : Nat) (ts : List Int) (j v : Nat) : Bool := (ats.take k).any (termHas (v : Int)) || (ts.take j).any fun t => decide (t = (v : Int))
theorem has_any (l : List Int) (v : Int) : (l.any fun t => decide (t = v)) = l.contains v := by
  induction l with
  | nil => rfl
  | cons x l ih =>
    rw [List.any_cons, List.contains_cons, ih]
    congr 1
    rw [Bool.eq_iff_iff, decide_eq_true_iff, beq_iff_eq]
    exact eq_comm
theorem metF_zero (ats : List Atm) (k : Nat) (ts : List Int) (v : Nat) : metF ats k ts 0 v = (ats.take k).any (termHas (v : Int)) := by unfold metF; simp
theorem metF_succ (ats : List Atm) (k : Nat) (ts : List Int) (j v : Nat) (hj : j < ts.length) : metF ats k ts (j + 1) v = (metF ats k ts j v || decide (ts[j] = (v : Int))) := by
  unfold metF
  rw [List.take_succ_eq_append_getElem hj, List.any_append, Bool.or_assoc]
  simp
theorem metF_next (ats : List Atm) (k : Nat) (hk : k < ats.length) (v : Nat) : metF ats k ats[k].terms ats[k].terms.length v = (ats.take (k + 1)).any (termHas (v : Int)) := by
  unfold metF
  rw [List.take_length, List.take_succ_eq_append_getElem hk, List.any_append, has_any]
  simp [termHas]
theorem all_take {α : Type} (p : α → Bool) (l : List α) (k : Nat) (hk : k < l.length) : (l.take (k + 1)).all p = ((l.take k).all p && p l[k]) := by
  rw [List.take_succ_eq_append_getElem hk, List.all_append]; simp
theorem any_takeA {α : Type} (p : α → Bool) (l : List α) (k : Nat) (hk : k < l.length) : (l.take (k + 1)).any p = ((l.take k).any p || p l[k]) := by
  rw [List.take_succ_eq_append_getElem hk, List.any_append]; simp
end Go.Proofs.Ytpcjhnbifgjleaa
