/- Chapter 1: contracts of EncodeFixed and DecodeFixed, in the model and in the program. -/
import Derived.Test.YtdieggjnnlldeaaRows
import Derived.WalkKit
import Derived.WalkSpells
import Derived.WalkLawsBesides
import Derived.Handy
import Derived.BigQuiet
import Derived.Lib.Hide
import Derived.Test.YtdieggjnnlldeaaAid
namespace Go.Proofs.Ytdieggjnnlldeaa
open Go.RowKit
set_option linter.unusedVariables false

def inB (n lo hi : Int) : Bool := decide (lo ≤ n) && decide (n ≤ hi)

theorem l1In_any (n lo hi : Int) (w : World) :
    Calls Try.prog 21 #[.int .i64 n, .int .i64 lo, .int .i64 hi] w fun e w' => e = .returned (.bool (inB n lo hi)) ∧ w = w' := by
  unfold inB
  by_cases h : lo ≤ n
  · go_enter Try.func21, Try.ntmps21
    go_wp2
    go_ret
    exact ⟨by simp; omega, rfl⟩
  · go_enter Try.func21, Try.ntmps21
    go_wp2
    go_ret
    exact ⟨by simp; omega, rfl⟩

theorem isFixedWidth_any (n : Int) (w : World) :
    Calls Try.prog 22 #[.int .i64 n] w fun e w' => e = .returned (.bool (inB n 1 7)) ∧ w = w' := by
  unfold inB
  by_cases h : 1 ≤ n
  · go_enter Try.func22, Try.ntmps22
    go_wp2
    go_ret
    exact ⟨by simp; omega, rfl⟩
  · go_enter Try.func22, Try.ntmps22
    go_wp2
    go_ret
    exact ⟨by simp; omega, rfl⟩

/-- The k low-order bytes of m, most significant first. -/
def beB (m : Nat) : Nat → List UInt8
  | 0 => []
  | k + 1 => UInt8.ofNat (m / 256 ^ k % 256) :: beB m k
theorem beB_length (m k : Nat) : (beB m k).length = k := by induction k with
  | zero => rfl
  | succ k ih => simp [beB, ih]
def encF (m wd : Nat) : List UInt8 := if m / 256 ^ wd = 0 then beB m wd else []

set_option maxHeartbeats 400000 in
theorem specEF_yes (m : Nat) (wd : Nat) (hm : m ≤ 9223372036854775807) (h1 : 1 ≤ wd) (h7 : wd ≤ 7) (w : World) :
    Calls Try.prog 9 #[.int .i64 m, .int .i64 wd] w fun e w' => e = .returned (.string (str (encF m wd))) ∧ Below w.heap.size w w' := by
  have hin : inB wd 1 7 = true := by simp [inB]; omega
  go_enter Try.func9, Try.ntmps9
  go_wp2_with (go_at_call 21; refine (l1In_any _ _ _ _).mono ?_; rintro e w' ⟨rfl, rfl⟩)
  go_loopw [5, 6, 0] (fun o i v wr => ∃ k q : Nat, k ≤ wd ∧ i = .int .i64 k ∧ o = .string (str (beB m k)) ∧ v = .int .i64 q ∧ q ≤ m ∧ Hid (q = m / 256 ^ k) ∧ Below w.heap.size w wr) (fun _ i _ _ => wd - (intOf i).toNat)
  case atStart => exact ⟨0, m, by omega, rfl, rfl, rfl, Nat.le_refl _, show m = m / 256 ^ 0 by simp, Below.refl _ _⟩
  case round =>
    obtain ⟨k, q, hk, rfl, rfl, rfl, hq, Hq, hb⟩ := hrel
    have hcv := fun ww => run_conv_one (P := Try.prog) ww 36 9 5 Try.underlying36 Try.underlying5 Try.underlying9 q
    have hsz : (str [UInt8.ofNat (q % 256)]).size + (str (beB m k)).size < 10 := by simp only [str_size, beB_length, List.length_singleton]; omega
    go_wp2
    · go_roundw
      case rel => exact ⟨k + 1, q / 256, by omega, by go_num, by rw [str_append, beB, ← Hq.out]; rfl, by go_num, by omega, show q / 256 = m / 256 ^ (k + 1) by rw [Hq.out, Nat.pow_succ, Nat.div_div_eq_div_mul], hb.alloc (hb.size) _⟩
      case measure => simp [intOf]; omega
    · have hkw : k = wd := by omega
      go_ret
      exact ⟨by have := Hq.out; subst hkw; rw [encF, if_neg (by omega)]; rfl, hb⟩
    · have hkw : k = wd := by omega
      go_ret
      exact ⟨by have := Hq.out; subst hkw; rw [encF, if_pos (by omega)]; rfl, hb⟩

theorem specEF_no (n wd : Int) (h : inB wd 1 7 = false ∨ n < 0) (w : World) :
    Calls Try.prog 9 #[.int .i64 n, .int .i64 wd] w fun e w' => e = .returned (.string (str [])) ∧ Below w.heap.size w w' := by
  by_cases hin : inB wd 1 7 = false
  · go_enter Try.func9, Try.ntmps9
    go_wp2_with (go_at_call 21; refine (l1In_any _ _ _ _).mono ?_; rintro e w' ⟨rfl, rfl⟩)
    go_ret
    exact ⟨rfl, Below.refl _ _⟩
  · have hn : n < 0 := h.resolve_left hin
    simp only [Bool.not_eq_false] at hin
    go_enter Try.func9, Try.ntmps9
    go_wp2_with (go_at_call 21; refine (l1In_any _ _ _ _).mono ?_; rintro e w' ⟨rfl, rfl⟩)
    go_ret
    exact ⟨rfl, Below.refl _ _⟩

theorem implEF_no (n wd : Int) (h : inB wd 1 7 = false ∨ n < 0) (w : World) :
    Calls Try.prog 10 #[.int .i64 n, .int .i64 wd] w fun e w' => e = .returned (.string (str [])) ∧ Below w.heap.size w w' := by
  by_cases hin : inB wd 1 7 = false
  · go_enter Try.func10, Try.ntmps10
    go_wp2_with (go_at_call 22; refine (isFixedWidth_any _ _).mono ?_; rintro e w' ⟨rfl, rfl⟩)
    go_ret
    exact ⟨rfl, Below.refl _ _⟩
  · have hn : n < 0 := h.resolve_left hin
    simp only [Bool.not_eq_false] at hin
    go_enter Try.func10, Try.ntmps10
    go_wp2_with (go_at_call 22; refine (isFixedWidth_any _ _).mono ?_; rintro e w' ⟨rfl, rfl⟩)
    go_ret
    exact ⟨rfl, Below.refl _ _⟩

theorem two_pow_wd (wd : Nat) (h1 : 1 ≤ wd) (h7 : wd ≤ 7) : wrap64 ((2 : Int) ^ (8 * wd)) = ((256 ^ wd : Nat) : Int) := by
  rcases (by omega : wd = 1 ∨ wd = 2 ∨ wd = 3 ∨ wd = 4 ∨ wd = 5 ∨ wd = 6 ∨ wd = 7) with rfl | rfl | rfl | rfl | rfl | rfl | rfl <;> simp [wrap64]
theorem Try.info5 : (Try.prog.info? 5).map (fun i => (i.zero, i.size, i.bytes)) = some (some (.int .u8 0), 1, 1) := by kernel_rfl

/-- The cells of the program's buffer after j stores from the end. -/
def cellsEF (m wd j : Nat) : List Value := (List.replicate (wd - j) (0 : UInt8) ++ beB m j).map byteV
theorem cellsEF_step (m wd j : Nat) (h : j < wd) : (cellsEF m wd j).set (wd - 1 - j) (.int .u8 ((m / 256 ^ j : Nat) % 256 : Int)) = cellsEF m wd (j + 1) := by
  unfold cellsEF
  rw [show wd - j = (wd - 1 - j) + 1 by omega, List.replicate_succ', List.append_assoc, List.map_append, List.set_append_right _ _ (by simp), show wd - (j + 1) = wd - 1 - j by omega]
  simp only [List.length_map, List.length_replicate, Nat.sub_self, List.map_append, beB, List.singleton_append, List.map_cons, List.set_cons_zero]
  congr 2
  simp [byteV]

set_option maxHeartbeats 400000 in
theorem implEF_yes (m : Nat) (wd : Nat) (hm : m ≤ 9223372036854775807) (h1 : 1 ≤ wd) (h7 : wd ≤ 7) (w : World) :
    Calls Try.prog 10 #[.int .i64 m, .int .i64 wd] w fun e w' => e = .returned (.string (str (encF m wd))) ∧ Below w.heap.size w w' := by
  have hin : inB wd 1 7 = true := by simp [inB]; omega
  have hp := two_pow_wd wd h1 h7
  have hpos : 0 < 256 ^ wd := Nat.pow_pos (by omega)
  by_cases hlt : m < 256 ^ wd
  · have hge : (m : Int) < wrap64 ((2 : Int) ^ (8 * wd)) := by rw [hp]; omega
    have henc : encF m wd = beB m wd := by rw [encF, if_pos (Nat.div_eq_of_lt hlt)]
    rw [henc]
    clear hp henc
    obtain ⟨i0, hi, hz0, hz1, hz2⟩ := info_parts Try.info5
    go_enter Try.func10, Try.ntmps10
    go_wp2_with (first | (go_at_call 22; refine (isFixedWidth_any _ _).mono ?_; rintro e w' ⟨rfl, rfl⟩) | (at_make; refine wpList_make_full _ rfl (.tmp 21) (.tmp 21) 36 rfl w.heap.size 5 i0 (.int .u8 0) 1 Try.underlying36 hi hz0 hz1 .i64 .i64 wd wd wd rfl rfl rfl rfl ?c1 ?c2 (Nat.le_refl _) ?_))
    case c1 => rw [hz2]; omega
    case c2 => unfold maxLen; omega
    intro w1 hown hgrow
    have e0 : (madeCells #[Value.int IntKind.u8 0] wd).toList = cellsEF m wd 0 := by rw [toList_madeCells_one]; simp [cellsEF, beB, byteV]
    rw [e0] at hown
    have hb0 : Below w.heap.size w w1 := (Below.refl _ _).grown hgrow (Nat.le_refl _) (by simp)
    clear e0 hgrow
    go_wp2
    go_loopw [6, 0] (fun i v wr => ∃ j q : Nat, j ≤ wd ∧ i = .int .i64 ((wd : Int) - 1 - j) ∧ v = .int .i64 q ∧ q ≤ m ∧ Hid (q = m / 256 ^ j) ∧ Below w.heap.size w wr ∧ wr.ownsRow w.heap.size 5 1 (.slice (some ⟨w.heap.size, 0, none⟩) wd wd) wd (cellsEF m wd j)) (fun i _ _ => (intOf i + 1).toNat)
    case atStart => exact ⟨0, m, by omega, by go_num, rfl, Nat.le_refl _, show m = m / 256 ^ 0 by simp, hb0, hown⟩
    case round =>
      clear hown hb0
      obtain ⟨j, q, hj, rfl, rfl, hq, Hq, hb, hown⟩ := hrel
      by_cases hlt : j < wd
      · have hlen : (cellsEF m wd j).length = wd := by simp [cellsEF, beB_length]; omega
        obtain ⟨u, hu⟩ : ∃ u, (cellsEF m wd j)[wd - 1 - j]? = some u := ⟨_, List.getElem?_eq_getElem (by omega)⟩
        have hcell : wr.cell? ⟨w.heap.size, wd - 1 - j, none⟩ = some u := (hown.cellAt (wd - 1 - j) (by omega)).trans hu
        have hfr := hown.frozenAt (wd - 1 - j)
        clear hu hlen
        go_wp2
        go_roundw
        case rel =>
          have hst := (hown.stored (wd - 1 - j) (.int .u8 ((q : Int) % 256))).1
          have hq' : (q : Int) = ((m / 256 ^ j : Nat) : Int) := by rw [← Hq.out]
          rw [hq', cellsEF_step m wd j hlt, ← hq'] at hst
          exact ⟨j + 1, q / 256, by omega, by go_num, by go_num, by omega, show q / 256 = m / 256 ^ (j + 1) by rw [Hq.out, Nat.pow_succ, Nat.div_div_eq_div_mul], hb.setCell (Nat.le_refl _) _, hst⟩
        case measure => simp [intOf]; omega
      · obtain rfl : j = wd := by omega
        have hc : cellsEF m j j = (beB m j).map byteV := by simp [cellsEF]
        rw [hc] at hown
        have hcv := run_conv_own (P := Try.prog) wr 36 9 5 Try.underlying36 Try.underlying5 Try.underlying9 _ _ _ _ hown
        clear hown hc
        go_wp2
        go_ret
        exact ⟨rfl, hb⟩
  · have hge : wrap64 ((2 : Int) ^ (8 * wd)) ≤ (m : Int) := by rw [hp]; omega
    have henc : encF m wd = [] := by rw [encF, if_neg (by have := Nat.div_pos (Nat.le_of_not_lt hlt) hpos; omega)]
    rw [henc]
    clear hp henc
    go_enter Try.func10, Try.ntmps10
    go_wp2_with (go_at_call 22; refine (isFixedWidth_any _ _).mono ?_; rintro e w' ⟨rfl, rfl⟩)
    go_ret
    exact ⟨rfl, Below.refl _ _⟩
end Go.Proofs.Ytdieggjnnlldeaa
