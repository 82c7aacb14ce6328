/- Chapter 10: terms: the model's and the program's functions that hand back plain values. -/
import Derived.Test.YtlcogbmceanghaaRelOne
namespace Go.Proofs.Ytlcogbmceanghaa
open Go.RowKit
set_option linter.unusedVariables false
set_option maxRecDepth 100000

theorem implConstantTerm_c {v : Int} (h1 : -9223372036854775808 ≤ v) (h2 : v ≤ 9223372036854775807) (w : World) : Calls Try.prog 46 #[.int .i64 v] w fun e w' => e = .returned (.int .i64 (-1 - v)) ∧ Below w.heap.size w w' := by
  have hw : wrap64 (-1 - v) = -1 - v := IntWalk.wrap64_in _ ⟨by omega, by omega⟩
  go_enter Try.func46, Try.ntmps46
  go_wp2
  go_ret
  exact ⟨rfl, by go_grown⟩
/-- A term that is a constant: its value. -/
def termOk (t : Int) : Bool := inB (-1 - t) 0 9
def termVal (t : Int) : Int := if termOk t then -1 - t else 0
theorem implTermValue_c {t : Int} (h1 : -9223372036854775808 ≤ t) (h2 : t ≤ 9223372036854775807) (w : World) : Calls Try.prog 41 #[.int .i64 t] w fun e w' => e = .returned (.tuple #[.int .i64 (termVal t), .bool (termOk t)]) ∧ Below w.heap.size w w' := by
  have H : ∀ ww, Calls Try.prog 47 #[.int .i64 (-1 - t)] ww fun e w' => e = .returned (.bool (inB (-1 - t) 0 9)) ∧ ww = w' := fun ww => isValue_any _ _
  have H2 := fun ww => implConstantTerm_c h1 h2 ww
  unfold termVal termOk
  generalize inB (-1 - t) 0 9 = I at *
  cases I with
  | true =>
    go_enter Try.func41, Try.ntmps41
    go_wp2_with fail
    refine (H2 _).mono ?_
    rintro e w1 ⟨rfl, hb1⟩
    go_wp2_with (go_at_call 47; refine (H _).mono ?_; rintro e w' ⟨rfl, rfl⟩)
    go_ret2
    exact ⟨rfl, hb1⟩
  | false =>
    go_enter Try.func41, Try.ntmps41
    go_wp2_with fail
    refine (H2 _).mono ?_
    rintro e w1 ⟨rfl, hb1⟩
    go_wp2_with (go_at_call 47; refine (H _).mono ?_; rintro e w' ⟨rfl, rfl⟩)
    go_ret2
    exact ⟨rfl, hb1⟩
end Go.Proofs.Ytlcogbmceanghaa

