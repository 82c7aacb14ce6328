/- Chapter 1: contracts of FormatInt, in the model and in the program. -/
import Derived.Test.YtlcogbmceanghaaDoorNumPure
import Derived.Test.YtlcogbmceanghaaDoorShelf
import Derived.Lib.ItoaLen
namespace Go.Proofs.YtlcogbmceanghaaDoor
open Go.RowKit
set_option linter.unusedVariables false
set_option maxRecDepth 100000

theorem decDigits_snoc {u : Nat} (h : ¬ u < 10) : Lib.decDigits u = Lib.decDigits (u / 10) ++ [UInt8.ofNat (48 + u % 10)] := by
  rw [Lib.decDigits, dif_neg h]
/-- The digits of what is left, ahead of those in hand. -/
def dpre (q : Nat) (acc : List UInt8) : List UInt8 := if q = 0 then acc else Lib.decDigits q ++ acc
theorem dpre_step {q : Nat} (h : q ≠ 0) (acc : List UInt8) : dpre q acc = dpre (q / 10) (UInt8.ofNat (48 + q % 10) :: acc) := by
  unfold dpre
  rw [if_neg h]
  by_cases hq : q < 10
  · rw [if_pos (by omega), Lib.decDigits_one hq, Nat.mod_eq_of_lt hq]; rfl
  · rw [if_neg (by omega), decDigits_snoc hq, List.append_assoc]; rfl

theorem digits_le (u : Nat) (h : u < 18446744073709551616) : (Lib.decDigits u).length ≤ 20 := by rw [Lib.decDigits_length]; exact Lib.nDigits_le20 u h
theorem dpre_len {q m : Nat} {acc : List UInt8} (H : dpre q acc = Lib.decDigits m) (h : m < 18446744073709551616) : acc.length ≤ 20 := by
  have h1 := digits_le m h
  rw [← H] at h1
  unfold dpre at h1
  split at h1
  · exact h1
  · rw [List.length_append] at h1; omega

theorem specFI_zero (w : World) :
    Calls Tryd.prog 59 #[.int .i64 0] w fun e w' => e = .returned (.string (str (Lib.itoa 0))) ∧ Below w.heap.size w w' := by
  go_enter Tryd.func59, Tryd.ntmps59
  go_wp2
  go_ret
  exact ⟨by simp [Lib.itoa, Lib.decDigits_one, str], Below.refl _ _⟩

set_option maxHeartbeats 800000 in
theorem specFI_pos (m : Nat) (h0 : 0 < m) (hm : (m : Int) ≤ 9223372036854775807) (w : World) :
    Calls Tryd.prog 59 #[.int .i64 m] w fun e w' => e = .returned (.string (str (Lib.decDigits m))) ∧ Below w.heap.size w w' := by
  have hz : ((m : Int) == 0) = false := by rw [beq_eq_false_iff_ne]; omega
  have hlt : decide ((m : Int) < 0) = false := by simp
  have hm2 : m < 18446744073709551616 := by omega
  have Hm2 := Lib.hid hm2
  clear hm2
  go_enter Tryd.func59, Tryd.ntmps59
  go_wp2
  go_loopw [3, 0, 5] (fun o v _ wr => ∃ (q : Nat) (acc : List UInt8), v = .int .i64 q ∧ o = .string (str acc) ∧ q ≤ m ∧ Hid (dpre q acc = Lib.decDigits m) ∧ Below w.heap.size w wr) (fun _ v _ _ => (intOf v).toNat)
  case atStart => exact ⟨m, [], rfl, rfl, Nat.le_refl _, show _ = _ by rw [dpre, if_neg (by omega), List.append_nil], Below.refl _ _⟩
  case round =>
    obtain ⟨q, acc, rfl, rfl, hq, Hq, hb⟩ := hrel
    by_cases hq0 : q = 0
    · have hE : ((q : Int) != 0) = false := by rw [bne_eq_false_iff_eq]; omega
      have hacc : acc = Lib.decDigits m := by rw [← Hq.out, dpre, if_pos hq0]
      have Hacc := Lib.hid hacc
      clear hacc hq0
      go_wp2
      go_ret
      exact ⟨by rw [← Hacc.out]; rfl, hb⟩
    · have hE : ((q : Int) != 0) = true := by rw [bne_iff_ne]; omega
      have hlen := dpre_len Hq.out Hm2.out
      have hnext := dpre_step hq0 acc
      have Hn := Lib.hid hnext
      have H0 := Lib.hid hq0
      obtain ⟨u, hu⟩ : ∃ u, u = UInt8.ofNat (48 + q % 10) := ⟨_, rfl⟩
      rw [← hu] at Hn
      have hcv := fun ww => run_conv_byte (P := Tryd.prog) ww 159 9 5 Tryd.underlying159 Tryd.underlying5 Tryd.underlying9 (48 + (q : Int) % 10) u (by rw [hu]; simp; omega)
      have hd : 0 ≤ (q : Int) % 10 := by omega
      have hsz : (str [u]).size + (str acc).size < 100 := by simp only [str_size, List.length_singleton]; omega
      clear hnext hq0 hu
      go_wp2
      go_roundw
      case rel => exact ⟨q / 10, u :: acc, by go_num, by rw [str_append]; rfl, by omega, show _ = _ by rw [← Hn.out, Hq.out], hb.alloc hb.size _⟩
      case measure => simp [intOf]; have := H0.out; omega

set_option maxHeartbeats 1600000 in
theorem specFI_neg (m : Nat) (h0 : 0 < m) (hm : (m : Int) ≤ 9223372036854775808) (w : World) :
    Calls Tryd.prog 59 #[.int .i64 (-(m : Int))] w fun e w' => e = .returned (.string (str (45 :: Lib.decDigits m))) ∧ Below w.heap.size w w' := by
  have hz : ((m : Int) == 0) = false := by rw [beq_eq_false_iff_ne]; omega
  have hz' : (-(m : Int) == 0) = false := by rw [beq_eq_false_iff_ne]; omega
  have hlt : decide (-(m : Int) < 0) = true := by simp; omega
  have hlt' : decide ((0 : Int) < m) = true := by simp; omega
  have hm2 : m < 18446744073709551616 := by omega
  have hm3 : m / 10 ≤ 922337203685477580 := by omega
  have Hm2 := Lib.hid hm2
  have Hm := Lib.hid hm
  clear hm2 hm
  go_enter Tryd.func59, Tryd.ntmps59
  go_wp2
  go_loopw [3, 0, 5] (fun o v _ wr => ∃ (q : Nat) (acc : List UInt8), v = .int .i64 (-(q : Int)) ∧ o = .string (str acc) ∧ q ≤ m ∧ Hid (dpre q acc = Lib.decDigits m) ∧ Below w.heap.size w wr) (fun _ v _ _ => (- intOf v).toNat)
  case atStart => exact ⟨m, [], rfl, rfl, Nat.le_refl _, show _ = _ by rw [dpre, if_neg (by omega), List.append_nil], Below.refl _ _⟩
  case round =>
    obtain ⟨q, acc, rfl, rfl, hq, Hq, hb⟩ := hrel
    by_cases hq0 : q = 0
    · have hE : (-(q : Int) != 0) = false := by rw [bne_eq_false_iff_eq]; omega
      have hE' : ((q : Int) != 0) = false := by rw [bne_eq_false_iff_eq]; omega
      have hacc : acc = Lib.decDigits m := by rw [← Hq.out, dpre, if_pos hq0]
      have hlen := dpre_len Hq.out Hm2.out
      have Hacc := Lib.hid hacc
      have hsz : (str [45]).size + (str acc).size < 100 := by simp only [str_size, List.length_singleton]; omega
      have hsz' : 1 + (str acc).size < 100 := by simp only [str_size]; omega
      clear hacc hq0
      go_wp2
      go_ret
      exact ⟨by rw [← Hacc.out, show 45 :: acc = [45] ++ acc from rfl, ← str_append]; rfl, hb⟩
    · have hE : (-(q : Int) != 0) = true := by rw [bne_iff_ne]; omega
      have hE' : ((q : Int) != 0) = true := by rw [bne_iff_ne]; omega
      have hlen := dpre_len Hq.out Hm2.out
      have hnext := dpre_step hq0 acc
      have H0 := Lib.hid hq0
      obtain ⟨u, hu⟩ : ∃ u, u = UInt8.ofNat (48 + q % 10) := ⟨_, rfl⟩
      rw [← hu] at hnext
      have Hn := Lib.hid hnext
      have hq10 : (q : Int) / 10 ≤ 922337203685477580 := by omega
      have hq0' : 0 ≤ (q : Int) / 10 := by omega
      have hsz : (str [u]).size + (str acc).size < 100 := by simp only [str_size, List.length_singleton]; omega
      clear hnext hq0
      by_cases hz10 : q % 10 = 0
      · have e0 : (q : Int) % 10 = 0 := by omega
        have hcv := fun ww => run_conv_byte (P := Tryd.prog) ww 159 9 5 Tryd.underlying159 Tryd.underlying5 Tryd.underlying9 48 u (by rw [hu, hz10]; rfl)
        clear hz10 hu
        go_wp2
        go_roundw
        case rel => exact ⟨q / 10, u :: acc, by go_num, by rw [str_append]; rfl, by omega, show _ = _ by rw [← Hn.out, Hq.out], hb.alloc hb.size _⟩
        case measure => simp [intOf]; have := H0.out; omega
      · have hd : 0 < (q : Int) % 10 := by omega
        have hd9 : (q : Int) % 10 ≤ 9 := by omega
        have hcv := fun ww => run_conv_byte (P := Tryd.prog) ww 159 9 5 Tryd.underlying159 Tryd.underlying5 Tryd.underlying9 (48 + (q : Int) % 10) u (by rw [hu]; simp; omega)
        clear hz10 hu
        go_wp2
        go_roundw
        case rel => exact ⟨q / 10, u :: acc, by go_num, by rw [str_append]; rfl, by omega, show _ = _ by rw [← Hn.out, Hq.out], hb.alloc hb.size _⟩
        case measure => simp [intOf]; have := H0.out; omega

theorem specFI (n : Int) (h0 : -9223372036854775808 ≤ n) (h1 : n ≤ 9223372036854775807) (w : World) :
    Calls Tryd.prog 59 #[.int .i64 n] w fun e w' => e = .returned (.string (str (Lib.itoa n))) ∧ Below w.heap.size w w' := by
  rcases Int.lt_trichotomy n 0 with h | h | h
  · obtain ⟨m, hm⟩ : ∃ m : Nat, n = -(m : Int) := ⟨n.natAbs, by omega⟩
    subst hm
    have e : Lib.itoa (-(m : Int)) = 45 :: Lib.decDigits m := by rw [Lib.itoa, if_pos h]; congr 2; omega
    rw [e]
    exact specFI_neg m (by omega) (by omega) w
  · subst h; exact specFI_zero w
  · obtain ⟨m, rfl⟩ := Int.eq_ofNat_of_zero_le (Int.le_of_lt h)
    have e : Lib.itoa (m : Int) = Lib.decDigits m := by rw [Lib.itoa, if_neg (by omega)]; rfl
    rw [e]
    exact specFI_pos m (by omega) h1 w

theorem grow_below (w : World) (k : Nat) (os : Array Obj) : Below w.heap.size w (Sort.grow (w.drewN k) os) :=
  ⟨rfl, rfl, rfl, by simp [Sort.grow, World.drewN], fun j hj => by
    show (w.heap ++ os)[j]? = w.heap[j]?
    rw [Array.getElem?_append_left hj]⟩

theorem implFI (n : Int) (h0 : -9223372036854775808 ≤ n) (h1 : n ≤ 9223372036854775807) (w : World) (htab : Lib.TabIs Tryd.prog w "internal/strconv.uint64pow10" .u64 Lib.pow10Tab) :
    Calls Tryd.prog 109 #[.int .i64 n] w fun e w' => e = .returned (.string (str (Lib.itoa n))) ∧ Below w.heap.size w w' := by
  have H := Lib.hid htab
  clear htab
  go_enter Tryd.func109, Tryd.ntmps109
  go_wp2_with fail
  refine (Tryd.strconv_Itoa n h0 h1 _ H.out).mono ?_
  rintro e w1 ⟨rfl, k, os, hw⟩
  have hb : Below w.heap.size w w1 := by rw [hw]; exact grow_below w k os
  clear hw
  go_wp2
  go_ret
  exact ⟨rfl, hb⟩
end Go.Proofs.YtlcogbmceanghaaDoor

