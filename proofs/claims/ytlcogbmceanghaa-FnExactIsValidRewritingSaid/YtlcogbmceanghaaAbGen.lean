/- Generic functions, at the program's types, over any function value that captures only what is read. Written by gen/abgen.py. -/
import Derived.Test.YtlcogbmceanghaaAbEnc
open Go Go.Proofs Go.RowKit
namespace Go.Proofs.Ytlcogbmceanghaa.Ab
set_option linter.unusedSimpArgs false
set_option linter.unusedVariables false
set_option maxRecDepth 100000
/-- What a function value captures is only read. -/
structure Caps (caps : List S) : Prop where
  argl : ∀ m, S.argl m caps = some caps
  readsl : ∀ m, S.readsl m caps = []
  wfs : ∀ m, S.wfs m caps
theorem caps_nil : Caps [] := ⟨fun _ => rfl, fun _ => rfl, fun _ => trivial⟩
theorem caps_one (c : List D) (k : Nat) : Caps [.e c k] := ⟨fun _ => rfl, fun _ => rfl, fun _ => ⟨trivial, trivial⟩⟩
theorem caps_two (c d : List D) (k j : Nat) : Caps [.e c k, .e d j] := ⟨fun _ => rfl, fun _ => rfl, fun _ => ⟨trivial, trivial, trivial⟩⟩
theorem caps_three (c d e : List D) (k j i : Nat) : Caps [.e c k, .e d j, .e e i] := ⟨fun _ => rfl, fun _ => rfl, fun _ => ⟨trivial, trivial, trivial, trivial⟩⟩
theorem eqN (i n : Nat) : ((i : Int) == (n : Int)) = decide (i = n) := by
  by_cases h : i = n
  · simp [h]
  · have h2 : (i : Int) ≠ (n : Int) := by omega
    rw [decide_eq_false h]
    exact beq_eq_false_iff_ne.2 h2
def idxOf {α : Type} (p : α → Bool) (l : List α) : Int := if l.findIdx p < l.length then (l.findIdx p : Int) else -1
theorem idxOf_at {α : Type} {p : α → Bool} {l : List α} {i : Nat} (h : i < l.length) (h1 : ∀ j (hj : j < i), p (l[j]'(by omega)) = false) (h2 : p l[i] = true) : idxOf p l = i := by
  unfold idxOf
  have e : l.findIdx p = i := by rw [List.findIdx_eq h]; exact ⟨h2, fun j hj => by rw [h1 j hj]⟩
  rw [e, if_pos h]
theorem idxOf_no {α : Type} {p : α → Bool} {l : List α} (h1 : ∀ j (hj : j < l.length), p l[j] = false) : idxOf p l = -1 := by
  unfold idxOf
  rw [if_neg]
  intro h
  have := List.findIdx_getElem (w := h)
  rw [h1 _ h] at this
  cases this
theorem idxOf_any {α : Type} (p : α → Bool) (l : List α) : decide (idxOf p l ≥ 0) = l.any p := by
  unfold idxOf
  by_cases h : l.findIdx p < l.length
  · rw [if_pos h]
    have : l.any p = true := List.any_eq_true.2 ⟨_, List.getElem_mem h, List.findIdx_getElem (w := h)⟩
    rw [this]
    simp
  · rw [if_neg h]
    have : l.any p = false := by
      rw [List.any_eq_false]
      intro x hx hp
      exact h (List.findIdx_lt_length_of_exists ⟨x, hx, hp⟩)
    rw [this]
    rfl
theorem mkA {α β : Type} (e : β → List D) (F : α → β) (l : List α) (i : Nat) (z : List D) (h : i < l.length) : (((l.take i).map F).map e ++ List.replicate (l.length - i) z)[i]? = some z := by
  have k : (((l.take i).map F).map e).length = i := by simp; omega
  rw [List.getElem?_append_right (by omega), k, Nat.sub_self, show l.length - i = l.length - (i + 1) + 1 by omega, List.replicate_succ]
  rfl
theorem mkA_set {α β : Type} (e : β → List D) (F : α → β) (l : List α) (i : Nat) (z : List D) (h : i < l.length) : (((l.take i).map F).map e ++ List.replicate (l.length - i) z).set i (e (F l[i])) = ((l.take (i + 1)).map F).map e ++ List.replicate (l.length - (i + 1)) z := by
  have k : (((l.take i).map F).map e).length = i := by simp; omega
  rw [List.set_append_right _ _ (by omega), k, Nat.sub_self, show l.length - i = l.length - (i + 1) + 1 by omega, List.replicate_succ, List.set_cons_zero, ← List.take_append_getElem h, List.map_append, List.map_append]
  simp
theorem mkA_len {α β : Type} (e : β → List D) (F : α → β) (l : List α) (i : Nat) (z : List D) (h : i ≤ l.length) : (((l.take i).map F).map e ++ List.replicate (l.length - i) z).length = l.length := by simp; omega
end Go.Proofs.Ytlcogbmceanghaa.Ab
