/- Slices of structs: the laws' helpers on them (size, copy, equality). -/
import Derived.Test.YtmofmepbekffiaaTyD
import Derived.BigQuiet
import Derived.Deep.QuietTactic
import Derived.Deep.RegionWith
namespace Go.Proofs.Ytmofmepbekffiaa
open Go.RowKit
set_option linter.unusedVariables false
set_option maxRecDepth 100000

/-- Element j of such a slice. -/
theorem at_IntS {B : Nat} {w : World} {l : List (List Int)} {a0 : Option Addr} {len cap0 : Nat} (h : (cSlice (cSlice cInt)).ok B w l [.slice a0 len cap0]) (j : Nat) (hj : j < l.length) :
    ∃ b off a cap, a0 = some ⟨b, off, none⟩ ∧ b < B ∧ w.cell? ⟨b, off + j, none⟩ = some (.slice a l[j].length cap) ∧ (cSlice cInt).ok B w l[j] [.slice a l[j].length cap] := by
  obtain ⟨b, off, es, rfl, hb, he, hc⟩ := slice_at h j hj
  obtain ⟨a, cap, rfl, hx⟩ := slice_open he
  exact ⟨b, off, a, cap, rfl, hb, by have := hc 0 (by decide); rw [show (cSlice cInt).n = 1 from rfl, Nat.mul_one, Nat.add_zero] at this; exact this, hx⟩
/-- The leaves of such a slice. -/
def sumIntS (l : List (List Int)) : Nat := (l.map fun x => x.length).sum
/-- The size of such a slice: its length and its leaves. -/
def sizeIntSS (l : List (List Int)) : Nat := l.length + sumIntS l
theorem sumIntS_ge (l : List (List Int)) (k : Nat) (hk : k < l.length) : (l[k].length) ≤ sumIntS l := by
  induction l generalizing k with
  | nil => simp at hk
  | cons x l ih =>
    unfold sumIntS at *
    rw [List.map_cons, List.sum_cons]
    cases k with
    | zero => exact Nat.le_add_right _ _
    | succ k => exact Nat.le_trans (ih k (by simpa using hk)) (Nat.le_add_left _ _)
theorem sumIntS_drop (l : List (List Int)) (k : Nat) (hk : k < l.length) : sumIntS (l.drop k) = (l[k].length) + sumIntS (l.drop (k + 1)) := by
  unfold sumIntS; rw [List.drop_eq_getElem_cons hk, List.map_cons, List.sum_cons]
theorem zIntS_at (A : List Value) (k n : Nat) (h : A.length = k * 1) (hk : k < n) : (A ++ (List.replicate (n - k) ([.slice none 0 0] : List Value)).flatten)[k]? = some (.slice none 0 0) := by
  have e1 : n - k = (n - (k + 1)) + 1 := by omega
  rw [e1, List.replicate_succ, List.flatten_cons]
  refine ?_
  rw [List.getElem?_append_right (by omega)]; simp [h]
theorem zIntS_step (A : List Value) (k n : Nat) (h : A.length = k * 1) (hk : k < n) (v0 : Value) : (A ++ (List.replicate (n - k) ([.slice none 0 0] : List Value)).flatten).set (k) v0 = (A ++ [v0]) ++ (List.replicate (n - (k + 1)) ([.slice none 0 0] : List Value)).flatten := by
  have e1 : n - k = (n - (k + 1)) + 1 := by omega
  rw [e1, List.replicate_succ, List.flatten_cons]
  rw [List.set_append_right _ _ (by omega)]
  simp [h]
theorem zIntS_made (n : Nat) : (madeCells #[.slice none 0 0] (n)).toList = (List.replicate n [.slice none 0 0]).flatten := by
  induction n with
  | zero => simp [madeCells]
  | succ n ih =>
    rw [List.replicate_succ', List.flatten_append, ← ih]
    unfold madeCells
    simp [Array.range_succ, Array.toList_range, Nat.mod_one]
theorem Try.infoIntS : (Try.prog.info? 24).map (fun i => (i.zero, i.size, i.bytes)) = some (some (.slice none 0 0), 1, 24) := by kernel_rfl
end Go.Proofs.Ytmofmepbekffiaa
