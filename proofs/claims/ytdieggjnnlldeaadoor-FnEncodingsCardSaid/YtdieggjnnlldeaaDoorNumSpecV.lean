/- Chapter 1: the model's EncodeVarint. -/
import Derived.Test.YtdieggjnnlldeaaDoorNumPure
import Derived.BigQuiet
import Derived.Deep.RegionHeld3
import Derived.Deep.AppendLies
namespace Go.Proofs.YtdieggjnnlldeaaDoor
open Go.RowKit
set_option linter.unusedVariables false
set_option maxRecDepth 100000

theorem l1In_any (n lo hi : Int) (w : World) :
    Calls Tryd.prog 41 #[.int .i64 n, .int .i64 lo, .int .i64 hi] w fun e w' => e = .returned (.bool (inB n lo hi)) ∧ w = w' := by
  unfold inB
  by_cases h : lo ≤ n
  · go_enter Tryd.func41, Tryd.ntmps41
    go_wp2
    go_ret
    exact ⟨by simp; omega, rfl⟩
  · go_enter Tryd.func41, Tryd.ntmps41
    go_wp2
    go_ret
    exact ⟨by simp; omega, rfl⟩

set_option maxRecDepth 100000 in
set_option maxHeartbeats 800000 in
theorem specEV_yes (m : Nat) (hm : m ≤ 562949953421311) (w : World) :
    Calls Tryd.prog 30 #[.int .i64 m] w fun e w' => e = .returned (.string (str (vB m))) ∧ Below w.heap.size w w' := by
  have hin : inB m 0 562949953421311 = true := by simp [inB]; omega
  have h7 := vB_le7 m hm
  obtain ⟨i0, hi, hz0, hz1, hz2⟩ := info_parts Tryd.info5
  go_enter Tryd.func30, Tryd.ntmps30
  go_wp2_with (go_at_call 41; refine (l1In_any _ _ _ _).mono ?_; rintro e w' ⟨rfl, rfl⟩)
  go_loopw [3, 0] (fun o v wr => ∃ (d : List UInt8) (q : Nat), wr.ownsRow w.heap.size 5 1 o d.length (d.map byteV) ∧ v = .int .i64 q ∧ q ≤ m ∧ Hid (d ++ vB q = vB m) ∧ Below w.heap.size w wr) (fun _ v _ => (intOf v).toNat)
  case atStart => exact ⟨[], m, World.ownsRow_lit w #[] 0 (Nat.le_refl _) (by unfold maxLen; omega) rfl, rfl, Nat.le_refl _, show _ = _ from rfl, (Below.refl _ _).alloc (Nat.le_refl _) _⟩
  case round =>
    obtain ⟨d, q, hown, rfl, hq, Hq, hb⟩ := hrel
    have hl := congrArg List.length Hq.out
    rw [List.length_append] at hl
    have hdl : d.length ≤ 7 := by omega
    have hqm : (q : Int) / 128 ≤ 562949953421311 := by omega
    clear hl hm hin
    by_cases hge : q < 128
    · have hx : (q : Int) < 128 := by omega
      go_wp2_with (at_builtin; refine wpList_append_own _ rfl _ _ 22 rfl w.heap.size 5 i0 (.int .u8 0) 1 1 Tryd.underlying22 hi hz0 hz1 hz2 rfl (by decide) _ _ _ rfl (hown.alloc _) ⟨wr.heap.size, 0, none⟩ 1 1 [.int .u8 (q : Int)] rfl rfl ?c1 ?c2 ?c3 ?c4 ?c5 ?_)
      case c1 => exact one_at _ _ _
      case c2 => exact one_oneCell _ _
      case c3 => unfold maxLen; omega
      case c4 => omega
      case c5 => have := hb.size; simp; omega
      intro v' w1 hown' hgrow _
      have hown2 := own_snoc (UInt8.ofNat q) (by simp; omega) hown'
      have hcv := run_conv_own (P := Tryd.prog) w1 22 9 5 Tryd.underlying22 Tryd.underlying5 Tryd.underlying9 _ _ _ _ hown2
      have hb1 : Below w.heap.size w w1 := (hb.alloc hb.size _).grown hgrow (by have := hb.size; simp; omega) (fun k hk => (World.ownsRow.lt hown k hk).1)
      clear hown hown' hgrow hown2
      go_wp2
      go_ret
      exact ⟨by rw [← vB_end Hq hge]; rfl, hb1⟩
    · have hx : (128 : Int) ≤ (q : Int) := by omega
      go_wp2_with (at_builtin; refine wpList_append_own _ rfl _ _ 22 rfl w.heap.size 5 i0 (.int .u8 0) 1 1 Tryd.underlying22 hi hz0 hz1 hz2 rfl (by decide) _ _ _ rfl (hown.alloc _) ⟨wr.heap.size, 0, none⟩ 1 1 [.int .u8 (128 + (q : Int) % 128)] rfl rfl ?c1 ?c2 ?c3 ?c4 ?c5 ?_)
      case c1 => exact one_at _ _ _
      case c2 => exact one_oneCell _ _
      case c3 => unfold maxLen; omega
      case c4 => omega
      case c5 => have := hb.size; simp; omega
      intro v' w1 hown' hgrow _
      have hown2 := own_snoc (UInt8.ofNat (128 + q % 128)) (by simp; omega) hown'
      have hb1 : Below w.heap.size w w1 := (hb.alloc hb.size _).grown hgrow (by have := hb.size; simp; omega) (fun k hk => (World.ownsRow.lt hown k hk).1)
      clear hown hown' hgrow
      go_wp2
      go_roundw
      case rel => exact ⟨d ++ [UInt8.ofNat (128 + q % 128)], q / 128, by simpa using hown2, by go_num, by omega, vB_step Hq hge, hb1⟩
      case measure => simp [intOf]; omega

theorem specEV_no (n : Int) (h : inB n 0 562949953421311 = false) (w : World) :
    Calls Tryd.prog 30 #[.int .i64 n] w fun e w' => e = .returned (.string (str [])) ∧ Below w.heap.size w w' := by
  go_enter Tryd.func30, Tryd.ntmps30
  go_wp2_with (go_at_call 41; refine (l1In_any _ _ _ _).mono ?_; rintro e w' ⟨rfl, rfl⟩)
  go_ret
  exact ⟨rfl, Below.refl _ _⟩

theorem specEV (n : Int) (w : World) :
    Calls Tryd.prog 30 #[.int .i64 n] w fun e w' => e = .returned (.string (str (encV n))) ∧ Below w.heap.size w w' := by
  unfold encV
  cases h : inB n 0 562949953421311
  · simpa using specEV_no n h w
  · have h2 := h
    simp [inB] at h2
    obtain ⟨m, rfl⟩ := Int.eq_ofNat_of_zero_le h2.1
    simpa using specEV_yes m (by omega) w
end Go.Proofs.YtdieggjnnlldeaaDoor
