/- The order of facts: transitive, zero at equals alone; neighbours with one key. -/
import Derived.Test.YtbdichnloeijfaaFactSpec
namespace Go.Proofs.Ytbdichnloeijfaa
set_option linter.unusedVariables false
theorem cmpL_trans : ∀ a b c : List Int, cmpL a b < 0 → cmpL b c < 0 → cmpL a c < 0
  | [], [], _, h, _ => by simp [cmpL] at h
  | [], _ :: _, [], _, h => by simp [cmpL] at h
  | [], _ :: _, _ :: _, _, _ => by simp [cmpL]
  | _ :: _, [], _, h, _ => by simp [cmpL] at h
  | _ :: _, _ :: _, [], _, h => by simp [cmpL] at h
  | x :: a, y :: b, z :: c, h1, h2 => by
    simp only [cmpL] at h1 h2 ⊢
    split at h1
    · split at h2
      · rw [if_pos (by omega)]; omega
      · split at h2
        · omega
        · rw [if_pos (by omega)]; omega
    · split at h1
      · omega
      · split at h2
        · rw [if_pos (by omega)]; omega
        · split at h2
          · omega
          · rw [if_neg (by omega), if_neg (by omega)]; exact cmpL_trans a b c h1 h2
theorem cmpL_zero : ∀ a b : List Int, cmpL a b = 0 ↔ a = b
  | [], [] => by simp [cmpL]
  | [], _ :: _ => by simp [cmpL]
  | _ :: _, [] => by simp [cmpL]
  | x :: a, y :: b => by
    simp only [cmpL]
    split
    · simp; omega
    · split
      · simp; omega
      · rw [cmpL_zero a b, List.cons.injEq]
        exact ⟨fun h => ⟨by omega, h⟩, fun h => h.2⟩
theorem cmpF_zero (x y : Fct) : cmpF x y = 0 ↔ x = y := by
  obtain ⟨r, v⟩ := x
  obtain ⟨s, u⟩ := y
  unfold cmpF
  simp only [Fct.mk.injEq]
  split
  · simp; omega
  · split
    · simp; omega
    · rw [cmpL_zero]
      exact ⟨fun h => ⟨by omega, h⟩, fun h => h.2⟩
theorem cmpF_trans (x y z : Fct) (h1 : cmpF x y < 0) (h2 : cmpF y z < 0) : cmpF x z < 0 := by
  unfold cmpF at *
  split at h1
  · split at h2
    · rw [if_pos (by omega)]; omega
    · split at h2
      · omega
      · rw [if_pos (by omega)]; omega
  · split at h1
    · omega
    · split at h2
      · rw [if_pos (by omega)]; omega
      · split at h2
        · omega
        · rw [if_neg (by omega), if_neg (by omega)]; exact cmpL_trans _ _ _ h1 h2
theorem take_mid : ∀ (p : Nat) (a b c : List Int), a.length = b.length → b.length = c.length → cmpL a b ≤ 0 → cmpL b c ≤ 0 → a.take p = c.take p → b.take p = c.take p
  | 0, _, _, _, _, _, _, _, _ => by simp
  | p + 1, [], [], [], _, _, _, _, _ => rfl
  | p + 1, x :: a, y :: b, z :: c, h1, h2, h3, h4, h5 => by
    simp only [List.take_succ_cons, List.cons.injEq] at h5 ⊢
    simp only [cmpL] at h3 h4
    obtain ⟨rfl, h5⟩ := h5
    have hxy : x = y := by
      split at h3 <;> split at h4 <;> try omega
      all_goals (split at h3 <;> try omega)
      all_goals (split at h4 <;> omega)
    subst hxy
    rw [if_neg (by omega), if_neg (by omega)] at h3 h4
    exact ⟨rfl, take_mid p a b c (by simpa using h1) (by simpa using h2) h3 h4 h5⟩
  | p + 1, [], _ :: _, _, h, _, _, _, _ => by simp at h
  | p + 1, _ :: _, [], _, h, _, _, _, _ => by simp at h
  | p + 1, [], [], _ :: _, _, h, _, _, _ => by simp at h
  | p + 1, _ :: _, _ :: _, [], _, h, _, _, _ => by simp at h
end Go.Proofs.Ytbdichnloeijfaa

