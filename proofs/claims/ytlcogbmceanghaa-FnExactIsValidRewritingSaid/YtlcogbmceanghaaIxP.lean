/- Strictly ascending indices. -/
import Derived.Test.YtlcogbmceanghaaIx
namespace Go.Proofs.Ytlcogbmceanghaa
open Go.RowKit
set_option linter.unusedVariables false
set_option maxRecDepth 100000
theorem setIx_in {n : Int} {l : List Int} (h : setIx n l = true) : ∀ x, x ∈ l → 0 ≤ x ∧ x < n := by
  intro x hx
  unfold setIx at h
  simp only [Bool.and_eq_true] at h
  have := List.all_eq_true.1 h.1 x hx
  unfold inB at this
  simp only [Bool.and_eq_true, decide_eq_true_eq] at this
  omega
theorem ascI_pw : ∀ (l : List Int) (p : Option Int), ascI p l = true → l.Pairwise (· < ·) ∧ ∀ q, p = some q → ∀ x, x ∈ l → q < x
  | [], p, _ => ⟨List.Pairwise.nil, by simp⟩
  | x :: l, p, h => by
    simp only [ascI, Bool.and_eq_true] at h
    obtain ⟨h1, h2⟩ := ascI_pw l (some x) h.2
    refine ⟨List.pairwise_cons.2 ⟨h2 x rfl, h1⟩, ?_⟩
    rintro q rfl y hy
    have hq : q < x := by simpa [okPI] using h.1
    rcases List.mem_cons.1 hy with rfl | hy
    · exact hq
    · have := h2 x rfl y hy; omega
theorem setIx_pw {n : Int} {l : List Int} (h : setIx n l = true) : l.Pairwise (· < ·) := by
  unfold setIx at h
  simp only [Bool.and_eq_true] at h
  exact (ascI_pw l none h.2).1
theorem setIx_len {n : Nat} {l : List Int} (h : setIx (n : Int) l = true) : l.length ≤ n := by
  have h1 := setIx_in h
  have h2 := setIx_pw h
  clear h
  suffices H : ∀ (l : List Int) (m : Int), (∀ x, x ∈ l → m ≤ x ∧ x < n) → l.Pairwise (· < ·) → l ≠ [] → (l.length : Int) ≤ n - m by
    cases hl : l with
    | nil => simp
    | cons x t => have := H l 0 h1 h2 (by rw [hl]; simp); rw [hl] at this; omega
  intro l
  induction l with
  | nil => intro m _ _ h; exact absurd rfl h
  | cons x t ih =>
    intro m h1 h2 _
    obtain ⟨h3, h4⟩ := List.pairwise_cons.1 h2
    have hx := h1 x (by simp)
    cases ht : t with
    | nil => simp; omega
    | cons y t2 =>
      have := ih (x + 1) (fun z hz => ⟨by have := h3 z hz; omega, (h1 z (by simp [hz])).2⟩) h4 (by rw [ht]; simp)
      rw [ht] at this
      simp only [List.length_cons] at this ⊢
      omega
end Go.Proofs.Ytlcogbmceanghaa

