/- Chapter 16: FormatClass, the model's and the program's. -/
import Derived.Test.YtjhmenjoanfloaaIn
namespace Go.Proofs.Ytjhmenjoanfloaa
open Go.RowKit
set_option linter.unusedVariables false
set_option maxRecDepth 100000

/-- The name of a class. -/
def className (n : Int) : ByteArray :=
  if n = 0 then str [110, 111, 110, 101] else if n = 1 then str [102, 105, 114, 115, 116] else if n = 2 then str [102, 105, 120] else if n = 3 then str [104, 97, 114, 100] else str []
theorem implFormatClass_c {n : Int} {w : World} :
    Calls Try.prog 30 #[.int .i64 n] w fun e w' => e = .returned (.string (className n)) ∧ Below w.heap.size w w' := by
  unfold className
  by_cases h0 : n = 0
  · subst h0
    go_enter Try.func30, Try.ntmps30
    go_wp2
    go_ret
    exact ⟨rfl, Below.refl _ _⟩
  · have e0 : (n == 0) = false := by simp [h0]
    rw [if_neg h0]
    by_cases h1 : n = 1
    · subst h1
      go_enter Try.func30, Try.ntmps30
      go_wp2
      go_ret
      exact ⟨rfl, Below.refl _ _⟩
    · have e1 : (n == 1) = false := by simp [h1]
      rw [if_neg h1]
      by_cases h2 : n = 2
      · subst h2
        go_enter Try.func30, Try.ntmps30
        go_wp2
        go_ret
        exact ⟨rfl, Below.refl _ _⟩
      · have e2 : (n == 2) = false := by simp [h2]
        rw [if_neg h2]
        by_cases h3 : n = 3
        · subst h3
          go_enter Try.func30, Try.ntmps30
          go_wp2
          go_ret
          exact ⟨rfl, Below.refl _ _⟩
        · have e3 : (n == 3) = false := by simp [h3]
          rw [if_neg h3]
          go_enter Try.func30, Try.ntmps30
          go_wp2
          go_ret
          exact ⟨rfl, Below.refl _ _⟩
theorem specFormatClass_c {n : Int} {w : World} :
    Calls Try.prog 29 #[.int .i64 n] w fun e w' => e = .returned (.string (className n)) ∧ Below w.heap.size w w' := by
  have H : ∀ ww, Calls Try.prog 71 #[.int .i64 n, .int .i64 0, .int .i64 3] ww fun e w' => e = .returned (.bool (inB n 0 3)) ∧ ww = w' := fun ww => l1In_any _ _ _ _
  by_cases hi : 0 ≤ n ∧ n ≤ 3
  · rw [show inB n 0 3 = true by unfold inB; simp; omega] at H
    have hc : n = 0 ∨ n = 1 ∨ n = 2 ∨ n = 3 := by omega
    rcases hc with rfl | rfl | rfl | rfl <;>
    · go_enter Try.func29, Try.ntmps29
      go_wp2_with (go_at_call 71; refine (H _).mono ?_; rintro e w' ⟨rfl, rfl⟩)
      go_ret
      exact ⟨rfl, by go_grown⟩
  · rw [show inB n 0 3 = false by unfold inB; simp; omega] at H
    have hc : className n = str [] := by
      unfold className
      rw [if_neg (by omega), if_neg (by omega), if_neg (by omega), if_neg (by omega)]
    rw [hc]
    clear hc hi
    go_enter Try.func29, Try.ntmps29
    go_wp2_with (go_at_call 71; refine (H _).mono ?_; rintro e w' ⟨rfl, rfl⟩)
    go_ret
    exact ⟨rfl, by go_grown⟩
end Go.Proofs.Ytjhmenjoanfloaa

