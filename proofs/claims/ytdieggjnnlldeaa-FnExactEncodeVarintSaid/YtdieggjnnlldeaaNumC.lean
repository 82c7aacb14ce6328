/- Chapter 1: contracts of EncodeVarint, in the model and in the program. -/
import Derived.Test.YtdieggjnnlldeaaNumA
namespace Go.Proofs.Ytdieggjnnlldeaa
open Go.RowKit
set_option linter.unusedVariables false

/-- The varint of m. -/
def vB (m : Nat) : List UInt8 := if m < 128 then [UInt8.ofNat m] else UInt8.ofNat (128 + m % 128) :: vB (m / 128)
theorem vB_lt {m : Nat} (h : m < 128) : vB m = [UInt8.ofNat m] := by rw [vB, if_pos h]
theorem vB_ge {m : Nat} (h : ¬ m < 128) : vB m = UInt8.ofNat (128 + m % 128) :: vB (m / 128) := by rw [vB, if_neg h]
theorem vB_length_le (k : Nat) : ∀ m, m < 128 ^ (k + 1) → (vB m).length ≤ k + 1 := by
  induction k with
  | zero => intro m h; rw [vB_lt (by simpa using h)]; simp
  | succ k ih =>
    intro m h
    by_cases hm : m < 128
    · rw [vB_lt hm]; simp
    · rw [vB_ge hm, List.length_cons]
      have := ih (m / 128) (Nat.div_lt_of_lt_mul (by rw [Nat.pow_succ] at h; omega))
      omega
theorem vB_le7 (m : Nat) (h : m ≤ 562949953421311) : (vB m).length ≤ 7 := vB_length_le 6 m (by omega)

/-- A round and the end of both loops: what the relation says of the list. -/
theorem vB_step {d : List UInt8} {q m : Nat} (H : Hid (d ++ vB q = vB m)) (h : ¬ q < 128) : Hid ((d ++ [UInt8.ofNat (128 + q % 128)]) ++ vB (q / 128) = vB m) := by
  show _ = _; rw [← H.out, vB_ge h, List.append_assoc]; rfl
theorem vB_end {d : List UInt8} {q m : Nat} (H : Hid (d ++ vB q = vB m)) (h : q < 128) : d ++ [UInt8.ofNat q] = vB m := by
  rw [← H.out, vB_lt h]

set_option maxRecDepth 100000 in
set_option maxHeartbeats 800000 in
theorem specEV_yes (m : Nat) (hm : m ≤ 562949953421311) (w : World) :
    Calls Try.prog 13 #[.int .i64 m] w fun e w' => e = .returned (.string (str (vB m))) ∧ Below w.heap.size w w' := by
  have hin : inB m 0 562949953421311 = true := by simp [inB]; omega
  have h7 := vB_le7 m hm
  obtain ⟨i0, hi, hz0, hz1, hz2⟩ := info_parts Try.info5
  go_enter Try.func13, Try.ntmps13
  go_wp2_with (go_at_call 21; refine (l1In_any _ _ _ _).mono ?_; rintro e w' ⟨rfl, rfl⟩)
  go_loopw [3, 0] (fun o v wr => ∃ (d : List UInt8) (q : Nat), wr.ownsRow w.heap.size 5 1 o d.length (d.map byteV) ∧ v = .int .i64 q ∧ q ≤ m ∧ Hid (d ++ vB q = vB m) ∧ Below w.heap.size w wr) (fun _ v _ => (intOf v).toNat)
  case atStart => exact ⟨[], m, World.ownsRow_lit w #[] 0 (Nat.le_refl _) (by unfold maxLen; omega) rfl, rfl, Nat.le_refl _, show _ = _ from rfl, (Below.refl _ _).alloc (Nat.le_refl _) _⟩
  case round =>
    obtain ⟨d, q, hown, rfl, hq, Hq, hb⟩ := hrel
    have hl := congrArg List.length Hq.out
    rw [List.length_append] at hl
    have hdl : d.length ≤ 7 := by omega
    have hqm : (q : Int) / 128 ≤ 562949953421311 := by omega
    clear hl hm hin
    by_cases hge : q < 128
    · have hx : (q : Int) < 128 := by omega
      go_wp2_with (at_builtin; refine wpList_append_own _ rfl _ _ 36 rfl w.heap.size 5 i0 (.int .u8 0) 1 1 Try.underlying36 hi hz0 hz1 hz2 rfl (by decide) _ _ _ rfl (hown.alloc _) ⟨wr.heap.size, 0, none⟩ 1 1 [.int .u8 (q : Int)] rfl rfl ?c1 ?c2 ?c3 ?c4 ?c5 ?_)
      case c1 => exact one_at _ _ _
      case c2 => exact one_oneCell _ _
      case c3 => unfold maxLen; omega
      case c4 => omega
      case c5 => have := hb.size; simp; omega
      intro v' w1 hown' hgrow _
      have hown2 := own_snoc (UInt8.ofNat q) (by simp; omega) hown'
      have hcv := run_conv_own (P := Try.prog) w1 36 9 5 Try.underlying36 Try.underlying5 Try.underlying9 _ _ _ _ hown2
      have hb1 : Below w.heap.size w w1 := (hb.alloc hb.size _).grown hgrow (by have := hb.size; simp; omega) (fun k hk => (World.ownsRow.lt hown k hk).1)
      clear hown hown' hgrow hown2
      go_wp2
      go_ret
      exact ⟨by rw [← vB_end Hq hge]; rfl, hb1⟩
    · have hx : (128 : Int) ≤ (q : Int) := by omega
      go_wp2_with (at_builtin; refine wpList_append_own _ rfl _ _ 36 rfl w.heap.size 5 i0 (.int .u8 0) 1 1 Try.underlying36 hi hz0 hz1 hz2 rfl (by decide) _ _ _ rfl (hown.alloc _) ⟨wr.heap.size, 0, none⟩ 1 1 [.int .u8 (128 + (q : Int) % 128)] rfl rfl ?c1 ?c2 ?c3 ?c4 ?c5 ?_)
      case c1 => exact one_at _ _ _
      case c2 => exact one_oneCell _ _
      case c3 => unfold maxLen; omega
      case c4 => omega
      case c5 => have := hb.size; simp; omega
      intro v' w1 hown' hgrow _
      have hown2 := own_snoc (UInt8.ofNat (128 + q % 128)) (by simp; omega) hown'
      have hb1 : Below w.heap.size w w1 := (hb.alloc hb.size _).grown hgrow (by have := hb.size; simp; omega) (fun k hk => (World.ownsRow.lt hown k hk).1)
      clear hown hown' hgrow
      go_wp2
      go_roundw
      case rel => exact ⟨d ++ [UInt8.ofNat (128 + q % 128)], q / 128, by simpa using hown2, by go_num, by omega, vB_step Hq hge, hb1⟩
      case measure => simp [intOf]; omega
set_option maxRecDepth 100000 in
set_option maxHeartbeats 800000 in
theorem implEV_yes (m : Nat) (hm : m ≤ 562949953421311) (w : World) :
    Calls Try.prog 14 #[.int .i64 m] w fun e w' => e = .returned (.string (str (vB m))) ∧ Below w.heap.size w w' := by
  have hge0 : (0 : Int) ≤ m := by omega
  have hle : (m : Int) ≤ 562949953421311 := by omega
  have h7 := vB_le7 m hm
  obtain ⟨i0, hi, hz0, hz1, hz2⟩ := info_parts Try.info5
  go_enter Try.func14, Try.ntmps14
  go_wp2
  go_loopw [3, 0] (fun o v wr => ∃ (d : List UInt8) (q : Nat), wr.ownsRow w.heap.size 5 1 o d.length (d.map byteV) ∧ v = .int .i64 q ∧ q ≤ m ∧ Hid (d ++ vB q = vB m) ∧ Below w.heap.size w wr) (fun _ v _ => (intOf v).toNat)
  case atStart => exact ⟨[], m, World.ownsRow_nil _ _ _ _, rfl, Nat.le_refl _, show _ = _ from rfl, Below.refl _ _⟩
  case round =>
    obtain ⟨d, q, hown, rfl, hq, Hq, hb⟩ := hrel
    have hl := congrArg List.length Hq.out
    rw [List.length_append] at hl
    have hdl : d.length ≤ 7 := by omega
    have hqm : (q : Int) / 128 ≤ 562949953421311 := by omega
    clear hl hm hge0 hle
    by_cases hge : q < 128
    · have hx : (q : Int) < 128 := by omega
      go_wp2_with (at_builtin; refine wpList_append_own _ rfl _ _ 36 rfl w.heap.size 5 i0 (.int .u8 0) 1 1 Try.underlying36 hi hz0 hz1 hz2 rfl (by decide) _ _ _ rfl (hown.alloc _) ⟨wr.heap.size, 0, none⟩ 1 1 [.int .u8 (q : Int)] rfl rfl ?c1 ?c2 ?c3 ?c4 ?c5 ?_)
      case c1 => exact one_at _ _ _
      case c2 => exact one_oneCell _ _
      case c3 => unfold maxLen; omega
      case c4 => omega
      case c5 => have := hb.size; simp; omega
      intro v' w1 hown' hgrow _
      have hown2 := own_snoc (UInt8.ofNat q) (by simp; omega) hown'
      have hcv := run_conv_own (P := Try.prog) w1 36 9 5 Try.underlying36 Try.underlying5 Try.underlying9 _ _ _ _ hown2
      have hb1 : Below w.heap.size w w1 := (hb.alloc hb.size _).grown hgrow (by have := hb.size; simp; omega) (fun k hk => (World.ownsRow.lt hown k hk).1)
      clear hown hown' hgrow hown2
      go_wp2
      go_ret
      exact ⟨by rw [← vB_end Hq hge]; rfl, hb1⟩
    · have hx : (128 : Int) ≤ (q : Int) := by omega
      go_wp2_with (at_builtin; refine wpList_append_own _ rfl _ _ 36 rfl w.heap.size 5 i0 (.int .u8 0) 1 1 Try.underlying36 hi hz0 hz1 hz2 rfl (by decide) _ _ _ rfl (hown.alloc _) ⟨wr.heap.size, 0, none⟩ 1 1 [.int .u8 ((q : Int) % 128 + 128)] rfl rfl ?c1 ?c2 ?c3 ?c4 ?c5 ?_)
      case c1 => exact one_at _ _ _
      case c2 => exact one_oneCell _ _
      case c3 => unfold maxLen; omega
      case c4 => omega
      case c5 => have := hb.size; simp; omega
      intro v' w1 hown' hgrow _
      have hown2 := own_snoc (UInt8.ofNat (128 + q % 128)) (by simp; omega) hown'
      have hb1 : Below w.heap.size w w1 := (hb.alloc hb.size _).grown hgrow (by have := hb.size; simp; omega) (fun k hk => (World.ownsRow.lt hown k hk).1)
      clear hown hown' hgrow
      go_wp2
      go_roundw
      case rel => exact ⟨d ++ [UInt8.ofNat (128 + q % 128)], q / 128, by simpa using hown2, by go_num, by omega, vB_step Hq hge, hb1⟩
      case measure => simp [intOf]; omega

theorem specEV_no (n : Int) (h : inB n 0 562949953421311 = false) (w : World) :
    Calls Try.prog 13 #[.int .i64 n] w fun e w' => e = .returned (.string (str [])) ∧ Below w.heap.size w w' := by
  go_enter Try.func13, Try.ntmps13
  go_wp2_with (go_at_call 21; refine (l1In_any _ _ _ _).mono ?_; rintro e w' ⟨rfl, rfl⟩)
  go_ret
  exact ⟨rfl, Below.refl _ _⟩

theorem implEV_no (n : Int) (h : inB n 0 562949953421311 = false) (w : World) :
    Calls Try.prog 14 #[.int .i64 n] w fun e w' => e = .returned (.string (str [])) ∧ Below w.heap.size w w' := by
  have h' : n < 0 ∨ 562949953421311 < n := by simp [inB] at h; omega
  clear h
  by_cases hn : n < 0
  · go_enter Try.func14, Try.ntmps14
    go_wp2
    go_ret
    exact ⟨rfl, Below.refl _ _⟩
  · have hn2 : 562949953421311 < n := h'.resolve_left hn
    go_enter Try.func14, Try.ntmps14
    go_wp2
    go_ret
    exact ⟨rfl, Below.refl _ _⟩

/-- The varint of n, empty where n is out of range. -/
def encV (n : Int) : List UInt8 := if inB n 0 562949953421311 then vB n.toNat else []
theorem specEV (n : Int) (w : World) :
    Calls Try.prog 13 #[.int .i64 n] w fun e w' => e = .returned (.string (str (encV n))) ∧ Below w.heap.size w w' := by
  unfold encV
  cases h : inB n 0 562949953421311
  · simpa using specEV_no n h w
  · have h2 := h
    simp [inB] at h2
    obtain ⟨m, rfl⟩ := Int.eq_ofNat_of_zero_le h2.1
    simpa using specEV_yes m (by omega) w
theorem implEV (n : Int) (w : World) :
    Calls Try.prog 14 #[.int .i64 n] w fun e w' => e = .returned (.string (str (encV n))) ∧ Below w.heap.size w w' := by
  unfold encV
  cases h : inB n 0 562949953421311
  · simpa using implEV_no n h w
  · have h2 := h
    simp [inB] at h2
    obtain ⟨m, rfl⟩ := Int.eq_ofNat_of_zero_le h2.1
    simpa using implEV_yes m (by omega) w
end Go.Proofs.Ytdieggjnnlldeaa
