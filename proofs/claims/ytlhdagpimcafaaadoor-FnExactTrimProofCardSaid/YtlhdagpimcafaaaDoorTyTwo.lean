/- TyTwo: TyC TyD. -/
import Derived.Test.YtlhdagpimcafaaaDoorTyOne
import Derived.BigQuiet
import Derived.Deep.QuietTactic
import Derived.Deep.RegionWith
/- Slices of structs: the laws' helpers on them (size, copy, equality). -/
namespace Go.Proofs.YtlhdagpimcafaaaDoor
open Go.RowKit
set_option linter.unusedVariables false
set_option maxRecDepth 100000

/-- Element j of such a slice. -/
theorem at_Relation {B : Nat} {w : World} {l : List Rel} {a0 : Option Addr} {len cap0 : Nat} (h : (cSlice cRel).ok B w l [.slice a0 len cap0]) (j : Nat) (hj : j < l.length) :
    ∃ b off, a0 = some ⟨b, off, none⟩ ∧ b < B ∧ w.cell? ⟨b, off + j * 3, none⟩ = some (.string l[j].name) ∧ w.cell? ⟨b, off + j * 3 + 1, none⟩ = some (.int .i64 l[j].arity) ∧ w.cell? ⟨b, off + j * 3 + 2, none⟩ = some (.int .i64 l[j].key) ∧ cRel.ok B w l[j] [.string l[j].name, .int .i64 l[j].arity, .int .i64 l[j].key] := by
  obtain ⟨b, off, es, rfl, hb, he, hc⟩ := slice_at h j hj
  obtain ⟨rfl, hx⟩ := cRel_open he
  exact ⟨b, off, rfl, hb, by exact hc 0 (by decide), by exact hc 1 (by decide), by exact hc 2 (by decide), hx⟩
/-- The leaves of such a slice. -/
def sumRelation (l : List Rel) : Nat := (l.map fun x => x.name.size).sum
/-- The size of such a slice: its length and its leaves. -/
def sizeRelationS (l : List Rel) : Nat := l.length + sumRelation l
theorem sumRelation_ge (l : List Rel) (k : Nat) (hk : k < l.length) : (l[k].name.size) ≤ sumRelation l := by
  induction l generalizing k with
  | nil => simp at hk
  | cons x l ih =>
    unfold sumRelation at *
    rw [List.map_cons, List.sum_cons]
    cases k with
    | zero => exact Nat.le_add_right _ _
    | succ k => exact Nat.le_trans (ih k (by simpa using hk)) (Nat.le_add_left _ _)
theorem sumRelation_drop (l : List Rel) (k : Nat) (hk : k < l.length) : sumRelation (l.drop k) = (l[k].name.size) + sumRelation (l.drop (k + 1)) := by
  unfold sumRelation; rw [List.drop_eq_getElem_cons hk, List.map_cons, List.sum_cons]
theorem zRelation_at (A : List Value) (k n : Nat) (h : A.length = k * 3) (hk : k < n) : (A ++ (List.replicate (n - k) ([.string ByteArray.empty, .int .i64 0, .int .i64 0] : List Value)).flatten)[k * 3]? = some (.string ByteArray.empty) ∧ (A ++ (List.replicate (n - k) ([.string ByteArray.empty, .int .i64 0, .int .i64 0] : List Value)).flatten)[k * 3 + 1]? = some (.int .i64 0) ∧ (A ++ (List.replicate (n - k) ([.string ByteArray.empty, .int .i64 0, .int .i64 0] : List Value)).flatten)[k * 3 + 2]? = some (.int .i64 0) := by
  have e1 : n - k = (n - (k + 1)) + 1 := by omega
  rw [e1, List.replicate_succ, List.flatten_cons]
  refine ⟨?_, ?_, ?_⟩
  · rw [List.getElem?_append_right (by omega)]; simp [h]
  · rw [List.getElem?_append_right (by omega)]; simp [h]
  · rw [List.getElem?_append_right (by omega)]; simp [h]
theorem zRelation_step (A : List Value) (k n : Nat) (h : A.length = k * 3) (hk : k < n) (v0 v1 v2 : Value) : (((A ++ (List.replicate (n - k) ([.string ByteArray.empty, .int .i64 0, .int .i64 0] : List Value)).flatten).set (k * 3) v0).set (k * 3 + 1) v1).set (k * 3 + 2) v2 = (A ++ [v0, v1, v2]) ++ (List.replicate (n - (k + 1)) ([.string ByteArray.empty, .int .i64 0, .int .i64 0] : List Value)).flatten := by
  have e1 : n - k = (n - (k + 1)) + 1 := by omega
  rw [e1, List.replicate_succ, List.flatten_cons]
  rw [List.set_append_right _ _ (by omega), List.set_append_right _ _ (by omega), List.set_append_right _ _ (by omega)]
  simp [h]
theorem zRelation_made (n : Nat) : (madeCells #[.string ByteArray.empty, .int .i64 0, .int .i64 0] (n * 3)).toList = (List.replicate n [.string ByteArray.empty, .int .i64 0, .int .i64 0]).flatten := by
  induction n with
  | zero => simp [madeCells]
  | succ n ih =>
    rw [List.replicate_succ', List.flatten_append, ← ih]
    unfold madeCells
    simp [Array.range_succ, Array.toList_range, Nat.add_mod, Nat.mul_mod_left, Nat.succ_mul]
/-- Element j of such a slice. -/
theorem at_Fact {B : Nat} {w : World} {l : List Fct} {a0 : Option Addr} {len cap0 : Nat} (h : (cSlice cFct).ok B w l [.slice a0 len cap0]) (j : Nat) (hj : j < l.length) :
    ∃ b off a1 cap1, a0 = some ⟨b, off, none⟩ ∧ b < B ∧ w.cell? ⟨b, off + j * 2, none⟩ = some (.int .i64 l[j].rel) ∧ w.cell? ⟨b, off + j * 2 + 1, none⟩ = some (.slice a1 l[j].vals.length cap1) ∧ cFct.ok B w l[j] [.int .i64 l[j].rel, .slice a1 l[j].vals.length cap1] := by
  obtain ⟨b, off, es, rfl, hb, he, hc⟩ := slice_at h j hj
  obtain ⟨a1, cap1, rfl, hx⟩ := cFct_open he
  exact ⟨b, off, a1, cap1, rfl, hb, by exact hc 0 (by decide), by exact hc 1 (by decide), hx⟩
/-- The leaves of such a slice. -/
def sumFact (l : List Fct) : Nat := (l.map fun x => x.vals.length).sum
/-- The size of such a slice: its length and its leaves. -/
def sizeFactS (l : List Fct) : Nat := l.length + sumFact l
theorem sumFact_ge (l : List Fct) (k : Nat) (hk : k < l.length) : (l[k].vals.length) ≤ sumFact l := by
  induction l generalizing k with
  | nil => simp at hk
  | cons x l ih =>
    unfold sumFact at *
    rw [List.map_cons, List.sum_cons]
    cases k with
    | zero => exact Nat.le_add_right _ _
    | succ k => exact Nat.le_trans (ih k (by simpa using hk)) (Nat.le_add_left _ _)
theorem sumFact_drop (l : List Fct) (k : Nat) (hk : k < l.length) : sumFact (l.drop k) = (l[k].vals.length) + sumFact (l.drop (k + 1)) := by
  unfold sumFact; rw [List.drop_eq_getElem_cons hk, List.map_cons, List.sum_cons]
theorem zFact_at (A : List Value) (k n : Nat) (h : A.length = k * 2) (hk : k < n) : (A ++ (List.replicate (n - k) ([.int .i64 0, .slice none 0 0] : List Value)).flatten)[k * 2]? = some (.int .i64 0) ∧ (A ++ (List.replicate (n - k) ([.int .i64 0, .slice none 0 0] : List Value)).flatten)[k * 2 + 1]? = some (.slice none 0 0) := by
  have e1 : n - k = (n - (k + 1)) + 1 := by omega
  rw [e1, List.replicate_succ, List.flatten_cons]
  refine ⟨?_, ?_⟩
  · rw [List.getElem?_append_right (by omega)]; simp [h]
  · rw [List.getElem?_append_right (by omega)]; simp [h]
theorem zFact_step (A : List Value) (k n : Nat) (h : A.length = k * 2) (hk : k < n) (v0 v1 : Value) : ((A ++ (List.replicate (n - k) ([.int .i64 0, .slice none 0 0] : List Value)).flatten).set (k * 2) v0).set (k * 2 + 1) v1 = (A ++ [v0, v1]) ++ (List.replicate (n - (k + 1)) ([.int .i64 0, .slice none 0 0] : List Value)).flatten := by
  have e1 : n - k = (n - (k + 1)) + 1 := by omega
  rw [e1, List.replicate_succ, List.flatten_cons]
  rw [List.set_append_right _ _ (by omega), List.set_append_right _ _ (by omega)]
  simp [h]
theorem zFact_made (n : Nat) : (madeCells #[.int .i64 0, .slice none 0 0] (n * 2)).toList = (List.replicate n [.int .i64 0, .slice none 0 0]).flatten := by
  induction n with
  | zero => simp [madeCells]
  | succ n ih =>
    rw [List.replicate_succ', List.flatten_append, ← ih]
    unfold madeCells
    simp [Array.range_succ, Array.toList_range, Nat.add_mod, Nat.mul_mod_left, Nat.succ_mul]
end Go.Proofs.YtlhdagpimcafaaaDoor
namespace Go.Proofs.YtlhdagpimcafaaaDoor
open Go.RowKit
set_option linter.unusedVariables false
set_option maxRecDepth 100000
/-- A database: its relations, its facts. -/
structure Dbs where
  rels : List Rel
  facts : List Fct
deriving DecidableEq
def cDbs : Cod Dbs := cMap (fun x => (x.rels, x.facts)) (cPair (cSlice cRel) (cSlice cFct))
theorem cDbs_fields {B : Nat} {w : World} {x : Dbs} {cs : List Value} (h : cDbs.ok B w x cs) : ∃ a0 cap0 a1 cap1, cs = [.slice a0 x.rels.length cap0, .slice a1 x.facts.length cap1] ∧ (cSlice cRel).ok B w x.rels [.slice a0 x.rels.length cap0] ∧ (cSlice cFct).ok B w x.facts [.slice a1 x.facts.length cap1] := by
  obtain ⟨_, _, rfl, h0, h1⟩ := h
  have k0 := h0
  obtain ⟨a0, cap0, rfl, _⟩ := k0
  have k1 := h1
  obtain ⟨a1, cap1, rfl, _⟩ := k1
  exact ⟨a0, cap0, a1, cap1, rfl, h0, h1⟩
theorem cDbs_open {B : Nat} {w : World} {x : Dbs} {cs : List Value} (h : cDbs.ok B w x cs) : ∃ a0 cap0 a1 cap1, cs = [.slice a0 x.rels.length cap0, .slice a1 x.facts.length cap1] ∧ cDbs.ok B w x [.slice a0 x.rels.length cap0, .slice a1 x.facts.length cap1] := by
  have h0 := h
  obtain ⟨a0, cap0, a1, cap1, rfl, _⟩ := cDbs_fields h
  exact ⟨a0, cap0, a1, cap1, rfl, h0⟩
theorem cDbs_inv {B : Nat} {w : World} {x : Dbs} {v0 v1 : Value} (h : cDbs.ok B w x [v0, v1]) : (cSlice cRel).ok B w x.rels [v0] ∧ (cSlice cFct).ok B w x.facts [v1] := by
  obtain ⟨a0, cap0, a1, cap1, e, h0, h1⟩ := cDbs_fields h
  simp only [List.cons.injEq, and_true] at e
  obtain ⟨rfl, rfl⟩ := e
  exact ⟨h0, h1⟩
theorem cDbs_mk {B : Nat} {w : World} {x : Dbs} {v0 v1 : Value} (h0 : (cSlice cRel).ok B w x.rels [v0]) (h1 : (cSlice cFct).ok B w x.facts [v1]) : cDbs.ok B w x [v0, v1] := ⟨[_], _, rfl, h0, h1⟩
theorem cDbs_own {lo hi lo0 hi0 lo1 hi1 : Nat} {w : World} {x : Dbs} {v0 v1 : Value} (h0 : OwnIn (cSlice cRel) lo0 hi0 w x.rels [v0]) (l0 : lo0 ≤ hi0) (h1 : OwnIn (cSlice cFct) lo1 hi1 w x.facts [v1]) (l1 : lo1 ≤ hi1) (q0 : lo ≤ lo0) (q1 : hi0 ≤ lo1) (q : hi1 ≤ hi) : OwnIn cDbs lo hi w x [v0, v1] := (OwnIn.pair (h0.wide (lo' := lo) (hi' := hi0) (by omega) (by omega)) (h1.wide (lo' := hi0) (hi' := hi) (by omega) (by omega)) (by omega) (by omega))
/-- Its size: its leaves behind slices. -/
def sizeDatabase (x : Dbs) : Nat := sizeRelationS x.rels + (sizeFactS x.facts)
end Go.Proofs.YtlhdagpimcafaaaDoor
