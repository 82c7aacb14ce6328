/- The laws' marks, read again in slices of facts; marks in slices of slices of numbers and in databases. -/
import Derived.Test.YtjhmenjoanfloaaMarkF
namespace Go.Proofs.Ytjhmenjoanfloaa
open Go.RowKit
set_option linter.unusedVariables false
set_option maxRecDepth 100000

theorem markL_at {α : Type} (mk : Nat → α → α) (lv : α → Nat) (q : Nat) (l M : List α) (j : Nat) (hj : j < l.length) (hM : j < M.length) (h : M.drop j = markL mk lv q (l.drop j)) : M[j] = mk q l[j] ∧ M.drop (j + 1) = markL mk lv (q + lv l[j]) (l.drop (j + 1)) := by
  rw [List.drop_eq_getElem_cons hM, markL_drop _ _ _ _ _ hj] at h
  simp only [List.cons.injEq] at h
  exact h
/-- Marks in a slice of slices of numbers. -/
def markIs (k : Nat) (l : List (List Int)) : List (List Int) := markL markI List.length k l
end Go.Proofs.Ytjhmenjoanfloaa
