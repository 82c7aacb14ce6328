/- Chapter 1: contracts of DecodeFixed, in the model and in the program. -/
import Derived.Test.YtdieggjnnlldeaaNumA
namespace Go.Proofs.Ytdieggjnnlldeaa
open Go.RowKit
set_option linter.unusedVariables false

/-- The number that a list of bytes encodes, most significant byte first. -/
def decB (l : List UInt8) : Nat := l.foldl (fun a b => a * 256 + b.toNat) 0
theorem decB_snoc (l : List UInt8) (b : UInt8) : decB (l ++ [b]) = decB l * 256 + b.toNat := by simp [decB]
theorem decB_lt' (l : List UInt8) (a : Nat) : l.foldl (fun a b => a * 256 + b.toNat) a < (a + 1) * 256 ^ l.length := by
  induction l generalizing a with
  | nil => simp
  | cons b l ih =>
    have h := ih (a * 256 + b.toNat)
    have hb := b.toNat_lt
    rw [List.foldl_cons, List.length_cons, Nat.pow_succ, Nat.mul_comm (256 ^ l.length), ← Nat.mul_assoc]
    exact Nat.lt_of_lt_of_le h (Nat.mul_le_mul_right _ (by omega))
theorem decB_lt (l : List UInt8) : decB l < 256 ^ l.length := by have h := decB_lt' l 0; rw [Nat.zero_add, Nat.one_mul] at h; exact h
theorem take_snoc (s : ByteArray) (k : Nat) (h : k < s.size) : s.data.toList.take (k + 1) = s.data.toList.take k ++ [s[k]] := by
  rw [List.take_succ_eq_append_getElem (by simpa using h)]; rfl
theorem decB_take_lt (s : ByteArray) (k : Nat) (h : k < 7) : decB (s.data.toList.take k) < 281474976710656 := by
  have h1 := decB_lt (s.data.toList.take k)
  have h2 : 256 ^ (s.data.toList.take k).length ≤ 256 ^ 6 := Nat.pow_le_pow_right (by omega) (by simp; omega)
  omega

set_option maxHeartbeats 400000 in
theorem specDF_yes (s : ByteArray) (wd : Nat) (hs : s.size ≤ maxLen) (h1 : 1 ≤ wd) (h7 : wd ≤ 7) (hw : wd ≤ s.size) (w : World) :
    Calls Try.prog 11 #[.string s, .int .i64 wd] w fun e w' => e = .returned (.tuple #[.int .i64 (decB (s.data.toList.take wd)), .bool true]) ∧ w = w' := by
  unfold maxLen at hs
  have hin : inB wd 1 7 = true := by simp [inB]; omega
  go_enter Try.func11, Try.ntmps11
  go_wp2_with (go_at_call 21; refine (l1In_any _ _ _ _).mono ?_; rintro e w' ⟨rfl, rfl⟩)
  go_loop [6, 7] (fun n i => ∃ k q : Nat, k ≤ wd ∧ i = .int .i64 k ∧ n = .int .i64 q ∧ Hid (q = decB (s.data.toList.take k))) (fun _ i => wd - (intOf i).toNat)
  case atStart => exact ⟨0, 0, by omega, rfl, rfl, show 0 = _ by simp [decB]⟩
  case round =>
    obtain ⟨k, q, hk, rfl, rfl, Hq⟩ := hrel
    by_cases hlt : k < wd
    · have hks : k < s.size := by omega
      have hby := s[k].toNat_lt
      have hq : q < 281474976710656 := by rw [Hq.out]; exact decB_take_lt s k (by omega)
      go_wp2
      go_round
      case rel => exact ⟨k + 1, q * 256 + s[k].toNat, by omega, by go_num, by go_num, show _ = _ by rw [take_snoc s k hks, decB_snoc, ← Hq.out]⟩
      case measure => simp [intOf]; omega
    · obtain rfl : k = wd := by omega
      go_wp2
      go_ret2
      exact ⟨by rw [← Hq.out]; rfl, rfl⟩

set_option maxHeartbeats 400000 in
theorem implDF_yes (s : ByteArray) (wd : Nat) (hs : s.size ≤ maxLen) (h1 : 1 ≤ wd) (h7 : wd ≤ 7) (hw : wd ≤ s.size) (w : World) :
    Calls Try.prog 12 #[.string s, .int .i64 wd] w fun e w' => e = .returned (.tuple #[.int .i64 (decB (s.data.toList.take wd)), .bool true]) ∧ w = w' := by
  unfold maxLen at hs
  have hin : inB wd 1 7 = true := by simp [inB]; omega
  go_enter Try.func12, Try.ntmps12
  go_wp2_with (go_at_call 22; refine (isFixedWidth_any _ _).mono ?_; rintro e w' ⟨rfl, rfl⟩)
  go_loop [6, 18] (fun n i => ∃ k q : Nat, k ≤ wd ∧ i = .int .i64 k ∧ n = .int .i64 q ∧ Hid (q = decB (s.data.toList.take k))) (fun _ i => wd - (intOf i).toNat)
  case atStart => exact ⟨0, 0, by omega, rfl, rfl, show 0 = _ by simp [decB]⟩
  case round =>
    obtain ⟨k, q, hk, rfl, rfl, Hq⟩ := hrel
    by_cases hlt : k < wd
    · have hks : k < s.size := by omega
      have hby := s[k].toNat_lt
      have hq : q < 281474976710656 := by rw [Hq.out]; exact decB_take_lt s k (by omega)
      have hor := i64_join 8 (q * 256) s[k].toNat (by omega) (by omega) (by omega) (by omega)
      rw [Int.natCast_mul] at hor
      go_wp2
      go_round
      case rel => exact ⟨k + 1, q * 256 + s[k].toNat, by omega, by go_num, by go_num, show _ = _ by rw [take_snoc s k hks, decB_snoc, ← Hq.out]⟩
      case measure => simp [intOf]; omega
    · obtain rfl : k = wd := by omega
      go_wp2
      go_ret2
      exact ⟨by rw [← Hq.out]; rfl, rfl⟩

theorem specDF_no (s : ByteArray) (wd : Int) (hs : s.size ≤ maxLen) (h : inB wd 1 7 = false ∨ (s.size : Int) < wd) (w : World) :
    Calls Try.prog 11 #[.string s, .int .i64 wd] w fun e w' => e = .returned (.tuple #[.int .i64 0, .bool false]) ∧ w = w' := by
  by_cases hin : inB wd 1 7 = false
  · go_enter Try.func11, Try.ntmps11
    go_wp2_with (go_at_call 21; refine (l1In_any _ _ _ _).mono ?_; rintro e w' ⟨rfl, rfl⟩)
    go_ret2
    exact ⟨rfl, rfl⟩
  · have hn := h.resolve_left hin
    simp only [Bool.not_eq_false] at hin
    go_enter Try.func11, Try.ntmps11
    go_wp2_with (go_at_call 21; refine (l1In_any _ _ _ _).mono ?_; rintro e w' ⟨rfl, rfl⟩)
    go_ret2
    exact ⟨rfl, rfl⟩

theorem implDF_no (s : ByteArray) (wd : Int) (hs : s.size ≤ maxLen) (h : inB wd 1 7 = false ∨ (s.size : Int) < wd) (w : World) :
    Calls Try.prog 12 #[.string s, .int .i64 wd] w fun e w' => e = .returned (.tuple #[.int .i64 0, .bool false]) ∧ w = w' := by
  by_cases hin : inB wd 1 7 = false
  · go_enter Try.func12, Try.ntmps12
    go_wp2_with (go_at_call 22; refine (isFixedWidth_any _ _).mono ?_; rintro e w' ⟨rfl, rfl⟩)
    go_ret2
    exact ⟨rfl, rfl⟩
  · have hn := h.resolve_left hin
    simp only [Bool.not_eq_false] at hin
    go_enter Try.func12, Try.ntmps12
    go_wp2_with (go_at_call 22; refine (isFixedWidth_any _ _).mono ?_; rintro e w' ⟨rfl, rfl⟩)
    go_ret2
    exact ⟨rfl, rfl⟩
end Go.Proofs.Ytdieggjnnlldeaa
