/- math/bits.TrailingZeros of 64 bits, by the table in its variable. -/
import Derived.Test.YtlcogbmceanghaaDoorAbBr
import Derived.Test.YtlcogbmceanghaaDoorRows
import Derived.LaidMore
import Derived.LaidLaws
import Derived.Lib.LaidTab
import Derived.Stop.LaidErr
import Derived.Shelf.Spec.TrailingZeros
open Go Go.Proofs Go.RowKit
namespace Go.Proofs.YtlcogbmceanghaaDoor.Ab
set_option linter.unusedSimpArgs false
set_option linter.unusedVariables false
set_option maxRecDepth 100000
theorem gTz : Tryd.prog.globalNamed "math/bits.deBruijn64tab" = some 3 := by kernel_rfl
theorem tTz : (Tryd.prog.globals[3]?).map (·.type) = some 220 := by kernel_rfl
theorem tz_eq : (Rows.laid_math_bits_deBruijn64tab : DataW Unit) = Lib.tabData .u8 tzTab := by
  unfold Rows.laid_math_bits_deBruijn64tab Lib.tabData tzTab
  rfl
theorem tz_of_laid {W : World} {a : String × DataW Unit} {r : List (String × DataW Unit)} (h : laidMet Tryd.prog (a :: ("math/bits.deBruijn64tab", Rows.laid_math_bits_deBruijn64tab) :: r) W) : TabG 3 .u8 tzTab W := by
  have h2 := h.tail
  rw [tz_eq] at h2
  have h3 := Lib.tabIs_of_head gTz tTz Tryd.underlying220 Tryd.underlying5 (by kernel_rfl) (by kernel_rfl) h2
  exact fun j hj => h3.cell gTz j hj
theorem gPowT : Tryd.prog.globalNamed "internal/strconv.uint64pow10" = some 1 := by kernel_rfl
theorem tPowT : (Tryd.prog.globals[1]?).map (·.type) = some 213 := by kernel_rfl
theorem pow_eqT : (Rows.laid_internal_strconv_uint64pow10 : DataW Unit) = Lib.tabData .u64 Lib.pow10Tab := by
  unfold Rows.laid_internal_strconv_uint64pow10 Lib.tabData Lib.pow10Tab
  simp [List.range, List.range.loop]
theorem pow_of_laid {W : World} {r : List (String × DataW Unit)} (h : laidMet Tryd.prog (("internal/strconv.uint64pow10", Rows.laid_internal_strconv_uint64pow10) :: r) W) : Lib.TabIs Tryd.prog W "internal/strconv.uint64pow10" .u64 Lib.pow10Tab := by
  rw [pow_eqT] at h
  exact Lib.tabIs_of_head gPowT tPowT Tryd.underlying213 Tryd.underlying207 (by kernel_rfl) (by kernel_rfl) h
theorem glob_of_laid {W : World} {a : String × DataW Unit} {r : List (String × DataW Unit)} (h : laidMet Tryd.prog (a :: ("math/bits.deBruijn64tab", Rows.laid_math_bits_deBruijn64tab) :: ("internal/strconv.uint64pow10", Rows.laid_internal_strconv_uint64pow10) :: r) W) : Glob W :=
  ⟨tz_of_laid h, pow_of_laid h.tail.tail⟩
theorem tzTab_map : tzTab = Lib.deBruijn64tab.map fun n : Nat => (n : Int) := rfl
theorem tzTab_at (j : Nat) (hj : j < 64) : tzTab.getD j 0 = ((Lib.deBruijn64tab.getD j 0 : Nat) : Int) := by
  rw [tzTab_map, List.getD_eq_getElem?_getD, List.getD_eq_getElem?_getD, List.getElem?_map]
  cases Lib.deBruijn64tab[j]? <;> rfl
theorem tzTab_len : tzTab.length = 64 := rfl
theorem tz64_core (x k idx : Nat) (w : World) (hx0 : ((x : Int) == 0) = false)
    (key : IntKind.u64.wrap (bits BinOp.and IntKind.u64 (x : Int) (IntKind.u64.wrap (-(x : Int))) * 285870213051353865) / 288230376151711744 = (idx : Int))
    (hi : idx < 64) (hk : k < 64) (hcell : w.cell? ⟨3, idx, none⟩ = some (.int .u8 k)) :
    Calls Tryd.prog 180 #[.int .u64 x] w fun e w' => e = .returned (.int .i64 k) ∧ w' = w := by
  go_enter Tryd.func180, Tryd.ntmps180
  go_wp2_with (simp only [key])
  go_ret
  exact ⟨rfl, rfl⟩
theorem tz64_zero (w : World) : Calls Tryd.prog 180 #[.int .u64 0] w fun e w' => e = .returned (.int .i64 64) ∧ w' = w := by
  go_enter Tryd.func180, Tryd.ntmps180
  go_wp2
  go_ret
  exact ⟨rfl, rfl⟩
theorem tab_cell {w : World} (hT : Glob w) {idx k : Nat} (hi : idx < 64) (ht : Lib.deBruijn64tab.getD idx 0 = k) : w.cell? ⟨3, idx, none⟩ = some (.int .u8 k) := by
  have hc := hT.tz idx (by rw [tzTab_len]; exact hi)
  rw [tzTab_at idx hi, ht] at hc
  exact hc
theorem tz64_c (x : Nat) (hx : x < 18446744073709551616) (w : World) (hT : Glob w) :
    Calls Tryd.prog 180 #[.int .u64 x] w fun e w' => e = .returned (.int .i64 (Lib.ctz 64 x)) ∧ w' = w := by
  by_cases hx0 : x = 0
  · subst hx0
    exact tz64_zero w
  · obtain ⟨hlow, hk⟩ := Lib.lowest_bit 64 x hx0 hx
    obtain ⟨hi, htab⟩ := Lib.deBruijn64_at _ hk
    exact tz64_core x _ _ w (by simp; omega) (tz64_key x _ hx hx0 hlow) hi hk (tab_cell hT hi htab)
theorem tz_c (x : Nat) (hx : x < 18446744073709551616) (w : World) (hT : Glob w) :
    Calls Tryd.prog 178 #[.int .u64 x] w fun e w' => e = .returned (.int .i64 (Lib.ctz 64 x)) ∧ w' = w := by
  have h64 := tz64_c x hx w hT
  have hw : IntKind.u64.wrap (x : Int) = (x : Int) := by rw [IntKind.wrap_u64]; omega
  go_enter Tryd.func178, Tryd.ntmps178
  go_wp2_with (simp only [hw])
  refine h64.mono ?_
  rintro e w' ⟨rfl, rfl⟩
  go_wp2
  go_ret
  exact ⟨rfl, rfl⟩
theorem tz_a (x : Nat) (hx : x < 18446744073709551616) : AC Tryd.prog 178 [.d (.v (.int .u64 x))] (.d (.v (.int .i64 (Lib.ctz 64 x : Nat)))) :=
  AC.plainG Tryd.func178 rfl (by decide) rfl (fun w K cs ov hg hK hr => by
    simp only [RdSs] at hr
    obtain ⟨v, _, rfl, h, rfl⟩ := hr
    have := h.int
    subst this
    refine Calls.mono (tz_c x hx w hg) ?_
    rintro e w' ⟨rfl, rfl⟩
    exact ⟨rfl, Below.refl _ _⟩)
end Go.Proofs.YtlcogbmceanghaaDoor.Ab

