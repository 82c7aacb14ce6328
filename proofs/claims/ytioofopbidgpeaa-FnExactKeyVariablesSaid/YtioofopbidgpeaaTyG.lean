/- Slices of structs: the laws' helpers on them (size, copy, equality). -/
import Derived.Test.YtioofopbidgpeaaTyF
import Derived.BigQuiet
import Derived.Deep.QuietTactic
import Derived.Deep.RegionWith
namespace Go.Proofs.Ytioofopbidgpeaa
open Go.RowKit
set_option linter.unusedVariables false
set_option maxRecDepth 100000

/-- Element j of such a slice. -/
theorem at_ConflictEdge {B : Nat} {w : World} {l : List Edg} {a0 : Option Addr} {len cap0 : Nat} (h : (cSlice cEdg).ok B w l [.slice a0 len cap0]) (j : Nat) (hj : j < l.length) :
    ∃ b off, a0 = some ⟨b, off, none⟩ ∧ b < B ∧ w.cell? ⟨b, off + j * 2, none⟩ = some (.int .i64 l[j].a) ∧ w.cell? ⟨b, off + j * 2 + 1, none⟩ = some (.int .i64 l[j].b) ∧ cEdg.ok B w l[j] [.int .i64 l[j].a, .int .i64 l[j].b] := by
  obtain ⟨b, off, es, rfl, hb, he, hc⟩ := slice_at h j hj
  obtain ⟨rfl, hx⟩ := cEdg_open he
  exact ⟨b, off, rfl, hb, by exact hc 0 (by decide), by exact hc 1 (by decide), hx⟩
theorem zConflictEdge_at (A : List Value) (k n : Nat) (h : A.length = k * 2) (hk : k < n) : (A ++ (List.replicate (n - k) ([.int .i64 0, .int .i64 0] : List Value)).flatten)[k * 2]? = some (.int .i64 0) ∧ (A ++ (List.replicate (n - k) ([.int .i64 0, .int .i64 0] : List Value)).flatten)[k * 2 + 1]? = some (.int .i64 0) := by
  have e1 : n - k = (n - (k + 1)) + 1 := by omega
  rw [e1, List.replicate_succ, List.flatten_cons]
  refine ⟨?_, ?_⟩
  · rw [List.getElem?_append_right (by omega)]; simp [h]
  · rw [List.getElem?_append_right (by omega)]; simp [h]
theorem zConflictEdge_step (A : List Value) (k n : Nat) (h : A.length = k * 2) (hk : k < n) (v0 v1 : Value) : ((A ++ (List.replicate (n - k) ([.int .i64 0, .int .i64 0] : List Value)).flatten).set (k * 2) v0).set (k * 2 + 1) v1 = (A ++ [v0, v1]) ++ (List.replicate (n - (k + 1)) ([.int .i64 0, .int .i64 0] : List Value)).flatten := by
  have e1 : n - k = (n - (k + 1)) + 1 := by omega
  rw [e1, List.replicate_succ, List.flatten_cons]
  rw [List.set_append_right _ _ (by omega), List.set_append_right _ _ (by omega)]
  simp [h]
theorem zConflictEdge_made (n : Nat) : (madeCells #[.int .i64 0, .int .i64 0] (n * 2)).toList = (List.replicate n [.int .i64 0, .int .i64 0]).flatten := by
  induction n with
  | zero => simp [madeCells]
  | succ n ih =>
    rw [List.replicate_succ', List.flatten_append, ← ih]
    unfold madeCells
    simp [Array.range_succ, Array.toList_range, Nat.add_mod, Nat.mul_mod_left, Nat.succ_mul]
/-- Element j of such a slice. -/
theorem at_Atom {B : Nat} {w : World} {l : List Atm} {a0 : Option Addr} {len cap0 : Nat} (h : (cSlice cAtm).ok B w l [.slice a0 len cap0]) (j : Nat) (hj : j < l.length) :
    ∃ b off a cap, a0 = some ⟨b, off, none⟩ ∧ b < B ∧ w.cell? ⟨b, off + j * 2, none⟩ = some (.int .i64 l[j].rel) ∧ w.cell? ⟨b, off + j * 2 + 1, none⟩ = some (.slice a l[j].terms.length cap) ∧ cAtm.ok B w l[j] [.int .i64 l[j].rel, .slice a l[j].terms.length cap] := by
  obtain ⟨b, off, es, rfl, hb, he, hc⟩ := slice_at h j hj
  obtain ⟨a, cap, rfl, hx⟩ := cAtm_open he
  exact ⟨b, off, a, cap, rfl, hb, by exact hc 0 (by decide), by exact hc 1 (by decide), hx⟩
/-- The leaves of such a slice. -/
def sumAtom (l : List Atm) : Nat := (l.map fun x => x.terms.length).sum
/-- The size of such a slice: its length and its leaves. -/
def sizeAtomS (l : List Atm) : Nat := l.length + sumAtom l
theorem sumAtom_ge (l : List Atm) (k : Nat) (hk : k < l.length) : (l[k].terms.length) ≤ sumAtom l := by
  induction l generalizing k with
  | nil => simp at hk
  | cons x l ih =>
    unfold sumAtom at *
    rw [List.map_cons, List.sum_cons]
    cases k with
    | zero => exact Nat.le_add_right _ _
    | succ k => exact Nat.le_trans (ih k (by simpa using hk)) (Nat.le_add_left _ _)
theorem sumAtom_drop (l : List Atm) (k : Nat) (hk : k < l.length) : sumAtom (l.drop k) = (l[k].terms.length) + sumAtom (l.drop (k + 1)) := by
  unfold sumAtom; rw [List.drop_eq_getElem_cons hk, List.map_cons, List.sum_cons]
theorem zAtom_at (A : List Value) (k n : Nat) (h : A.length = k * 2) (hk : k < n) : (A ++ (List.replicate (n - k) ([.int .i64 0, .slice none 0 0] : List Value)).flatten)[k * 2]? = some (.int .i64 0) ∧ (A ++ (List.replicate (n - k) ([.int .i64 0, .slice none 0 0] : List Value)).flatten)[k * 2 + 1]? = some (.slice none 0 0) := by
  have e1 : n - k = (n - (k + 1)) + 1 := by omega
  rw [e1, List.replicate_succ, List.flatten_cons]
  refine ⟨?_, ?_⟩
  · rw [List.getElem?_append_right (by omega)]; simp [h]
  · rw [List.getElem?_append_right (by omega)]; simp [h]
theorem zAtom_step (A : List Value) (k n : Nat) (h : A.length = k * 2) (hk : k < n) (v0 v1 : Value) : ((A ++ (List.replicate (n - k) ([.int .i64 0, .slice none 0 0] : List Value)).flatten).set (k * 2) v0).set (k * 2 + 1) v1 = (A ++ [v0, v1]) ++ (List.replicate (n - (k + 1)) ([.int .i64 0, .slice none 0 0] : List Value)).flatten := by
  have e1 : n - k = (n - (k + 1)) + 1 := by omega
  rw [e1, List.replicate_succ, List.flatten_cons]
  rw [List.set_append_right _ _ (by omega), List.set_append_right _ _ (by omega)]
  simp [h]
theorem zAtom_made (n : Nat) : (madeCells #[.int .i64 0, .slice none 0 0] (n * 2)).toList = (List.replicate n [.int .i64 0, .slice none 0 0]).flatten := by
  induction n with
  | zero => simp [madeCells]
  | succ n ih =>
    rw [List.replicate_succ', List.flatten_append, ← ih]
    unfold madeCells
    simp [Array.range_succ, Array.toList_range, Nat.add_mod, Nat.mul_mod_left, Nat.succ_mul]
theorem Try.infoAtom : (Try.prog.info? 46).map (fun i => (i.zero, i.size, i.bytes)) = some (some (.agg #[.int .i64 0, .slice none 0 0]), 2, 32) := by kernel_rfl
end Go.Proofs.Ytioofopbidgpeaa
