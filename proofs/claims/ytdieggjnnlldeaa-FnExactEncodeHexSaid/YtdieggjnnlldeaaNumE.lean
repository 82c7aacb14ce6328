/- Chapter 1: contracts of EncodeHex, in the model and in the program. -/
import Derived.Test.YtdieggjnnlldeaaNumA
import Derived.Test.YtdieggjnnlldeaaBuild
import Derived.Deep.RegionHeld3
import Derived.Deep.AppendLies
namespace Go.Proofs.Ytdieggjnnlldeaa
open Go.RowKit
set_option linter.unusedVariables false
set_option maxRecDepth 100000

def hexTab : List UInt8 := [48, 49, 50, 51, 52, 53, 54, 55, 56, 57, 97, 98, 99, 100, 101, 102]
/-- The hexadecimal digit of k. -/
def hexD (k : Nat) : UInt8 := hexTab.getD k 0
theorem hexD_at (k : Nat) (hk : k < 16) : ({ data := #[48, 49, 50, 51, 52, 53, 54, 55, 56, 57, 97, 98, 99, 100, 101, 102] } : ByteArray)[k]'(by simpa [ByteArray.size] using hk) = hexD k := by
  revert k; decide
def hex2 (b : UInt8) : List UInt8 := [hexD (b.toNat / 16), hexD (b.toNat % 16)]
def hexE (l : List UInt8) : List UInt8 := l.flatMap hex2
theorem hexE_length (l : List UInt8) : (hexE l).length = 2 * l.length := by
  induction l with
  | nil => rfl
  | cons b l ih => rw [hexE, List.flatMap_cons, List.length_append, ← hexE, ih]; simp [hex2]; omega
theorem hexE_snoc (l : List UInt8) (b : UInt8) : hexE (l ++ [b]) = hexE l ++ hex2 b := by simp [hexE, List.flatMap_append]

theorem l1Digit_any (k : Nat) (hk : k < 16) (w : World) :
    Calls Try.prog 24 #[.int .i64 k] w fun e w' => e = .returned (.int .u8 (hexD k).toNat) ∧ w' = w := by
  go_enter Try.func24, Try.ntmps24
  go_wp2
  go_ret
  exact ⟨by rw [← hexD_at k hk]; rfl, rfl⟩

theorem l1Digit_int (n : Int) (h0 : 0 ≤ n) (h1 : n < 16) (w : World) :
    Calls Try.prog 24 #[.int .i64 n] w fun e w' => e = .returned (.int .u8 (hexD n.toNat).toNat) ∧ w' = w := by
  obtain ⟨k, rfl⟩ := Int.eq_ofNat_of_zero_le h0
  exact l1Digit_any k (by omega) w

theorem take_snoc (s : ByteArray) (k : Nat) (h : k < s.size) : s.data.toList.take (k + 1) = s.data.toList.take k ++ [s[k]] := by
  rw [List.take_succ_eq_append_getElem (by simpa using h)]; rfl
theorem two_oneCell (x y : Int) : ∀ u ∈ [Value.int .u8 x, .int .u8 y], u.oneCell' = true := by
  intro u hu; simp at hu; rcases hu with rfl | rfl <;> rfl
theorem two_at (w : World) (x y : Value) (e : TypeId) : ∀ j u, [x, y][j]? = some u → (w.alloc (.cells #[x, y] e)).cell? ((⟨w.heap.size, 0, none⟩ : Addr).add j) = some u := by
  intro j u hj
  match j, hj with
  | 0, hj => simp at hj; subst hj; simp [Addr.add, World.cell?_alloc_at]
  | 1, hj => simp at hj; subst hj; simp [Addr.add, World.cell?_alloc_at]

set_option maxHeartbeats 800000 in
theorem specEH (s : ByteArray) (hs : s.size ≤ 1048576) (w : World) :
    Calls Try.prog 17 #[.string s] w fun e w' => e = .returned (.string (str (hexE s.data.toList))) ∧ Below w.heap.size w w' := by
  obtain ⟨i0, hi, hz0, hz1, hz2⟩ := info_parts Try.info5
  go_enter Try.func17, Try.ntmps17
  go_wp2
  go_loopw [3, 4] (fun o v wr => ∃ k : Nat, k ≤ s.size ∧ v = .int .i64 k ∧ wr.ownsRow w.heap.size 5 1 o (2 * k) ((hexE (s.data.toList.take k)).map byteV) ∧ Below w.heap.size w wr) (fun _ v _ => s.size - (intOf v).toNat)
  case atStart => exact ⟨0, by omega, rfl, World.ownsRow_lit w #[] 0 (Nat.le_refl _) (by unfold maxLen; omega) rfl, (Below.refl _ _).alloc (Nat.le_refl _) _⟩
  case round =>
    obtain ⟨k, hk, rfl, hown, hb⟩ := hrel
    by_cases hlt : k < s.size
    · have hby := s[k].toNat_lt
      have q1 : (s[k].toNat : Int) / 16 = ((s[k].toNat / 16 : Nat) : Int) := by omega
      have h16 : (s[k].toNat : Int) / 16 < 16 := by omega
      have h0 : 0 ≤ (s[k].toNat : Int) / 16 := by omega
      have g16 : (s[k].toNat : Int) % 16 < 16 := by omega
      have g0 : 0 ≤ (s[k].toNat : Int) % 16 := by omega
      have a1 : 2 * k + 2 ≤ maxLen := by unfold maxLen; omega
      have a2 : (2 * k + 2) * 1 ≤ 140737488355328 := by omega
      obtain ⟨d1, hd1⟩ : ∃ d1, d1 = hexD ((s[k].toNat : Int) / 16).toNat := ⟨_, rfl⟩
      obtain ⟨d2, hd2⟩ : ∃ d2, d2 = hexD ((s[k].toNat : Int) % 16).toNat := ⟨_, rfl⟩
      have c1 := Lib.hid (fun ww => l1Digit_int ((s[k].toNat : Int) / 16) h0 h16 ww)
      have c2 := Lib.hid (fun ww => l1Digit_int ((s[k].toNat : Int) % 16) g0 g16 ww)
      rw [← hd1] at c1
      rw [← hd2] at c2
      have a3 : w.heap.size ≤ ((wr.alloc (.cells #[.int .u8 d1.toNat, .int .u8 d2.toNat] 5)).drew).heap.size := by have := hb.size; simp; omega
      have H2 : Hid (hex2 s[k] = [d1, d2]) := show _ = _ by rw [hd1, hd2]; rfl
      have hw1 : IntKind.i64.wrap (s[k].toNat : Int) = s[k].toNat := IntWalk.i64_in _ (by omega)
      have hw2 : IntKind.i64.wrap ((s[k].toNat : Int).tdiv 16) = (s[k].toNat : Int) / 16 := by rw [Int.tdiv_eq_ediv_of_nonneg (by omega)]; exact IntWalk.i64_in _ (by omega)
      have hw3 : IntKind.i64.wrap ((s[k].toNat : Int).tmod 16) = (s[k].toNat : Int) % 16 := by rw [Int.tmod_eq_emod_of_nonneg (by omega)]; exact IntWalk.i64_in _ (by omega)
      have hw4 : IntKind.i64.wrap ((s[k].toNat : Int) / 16) = (s[k].toNat : Int) / 16 := IntWalk.i64_in _ (by omega)
      have hw5 : IntKind.i64.wrap ((s[k].toNat : Int) % 16) = (s[k].toNat : Int) % 16 := IntWalk.i64_in _ (by omega)
      have hw6 : (s[k].toNat : Int).tmod 16 = (s[k].toNat : Int) % 16 := Int.tmod_eq_emod_of_nonneg (by omega)
      clear q1 hd1 hd2
      go_wp2
      go_region_held3 (fun _ => True) (trivial)
        (first
          | (go_at_call 24; with_reducible refine (c1.out _).mono ?_; rintro e w' ⟨rfl, rfl⟩)
          | (go_at_call 24; with_reducible refine (c2.out _).mono ?_; rintro e w' ⟨rfl, rfl⟩)
          | (refine step_append_lies _ (by rfl) _ _ _ (by rfl) w.heap.size 5 i0 (.int .u8 0) 1 1 Try.underlying36 hi hz0 hz1 hz2 rfl (by decide) _ (2 * k) _ (by rfl) ((hown.alloc _).drew) ⟨wr.heap.size, 0, none⟩ 2 2 [.int .u8 d1.toNat, .int .u8 d2.toNat] (by rfl) (by rfl) (two_at _ _ _ _) (two_oneCell _ _) (by decide) a1 a2 a3 _ rfl ?_; intro gg cap w1 hown1 hgrow hat hlt1))
      all_goals
        have hown2 : w1.ownsRow w.heap.size 5 1 (.slice (some ⟨gg, 0, none⟩) (2 * k + 2) cap) (2 * (k + 1)) ((hexE (s.data.toList.take (k + 1))).map byteV) := by
          rw [take_snoc s k hlt, hexE_snoc, List.map_append, H2.out]
          exact hown1
        have hb1 : Below w.heap.size w w1 := ((hb.alloc hb.size _).drew).grown hgrow (by have := hb.size; simp; omega) (fun j hj => (World.ownsRow.lt hown j hj).1)
        have Hown2 := Lib.hid hown2
        clear hown hown1 hown2 hgrow hat hw1 hw2 hw3 hw4 hw5 hw6 a1 a2 a3
        go_wp2
        go_roundw
        case rel => exact ⟨k + 1, by omega, by go_num, Hown2.out, hb1⟩
        case measure => simp [intOf]; omega
    · obtain rfl : k = s.size := by omega
      rw [List.take_of_length_le (by simp)] at hown
      have hcv := run_conv_own (P := Try.prog) wr 36 9 5 Try.underlying36 Try.underlying5 Try.underlying9 _ _ _ _ hown
      clear hown
      go_wp2
      go_ret
      exact ⟨rfl, hb⟩

theorem hexTab_at (k : Nat) (hk : k < 16) : ({ data := #[48, 49, 50, 51, 52, 53, 54, 55, 56, 57, 97, 98, 99, 100, 101, 102] } : ByteArray)[k]'(by simpa [ByteArray.size] using hk) = hexD k := hexD_at k hk

set_option maxHeartbeats 800000 in
theorem implEH (s : ByteArray) (hs : s.size ≤ 1048576) (w : World) :
    Calls Try.prog 18 #[.string s] w fun e w' => e = .returned (.string (str (hexE s.data.toList))) ∧ Below w.heap.size w w' := by
  go_enter Try.func18, Try.ntmps18
  go_wp2
  go_loopw [7] (fun v wr => ∃ k : Nat, k ≤ s.size ∧ v = .int .i64 k ∧ Lib.IsBuilder 42 5 w.heap.size w.heap.size (Lib.byteCells (hexE (s.data.toList.take k))) wr ∧ Below w.heap.size w wr) (fun v _ => s.size - (intOf v).toNat)
  case atStart => exact ⟨0, by omega, rfl, Lib.fresh_isBuilder _ _ w, (Below.refl _ _).alloc (Nat.le_refl _) _⟩
  case round =>
    obtain ⟨k, hk, rfl, hI, hb⟩ := hrel
    by_cases hlt : k < s.size
    · have hby := s[k].toNat_lt
      have hlen : (hexE (s.data.toList.take k)).length ≤ 2097152 := by rw [hexE_length]; simp; omega
      go_wp2_with fail
      refine (writeByte_any _ _ _ (hexD (s[k].toNat / 16)) _ ?_ _ hI ?_ ?_).mono ?_
      · rw [hexD_at _ (by omega)]
      · omega
      · exact hb.size
      rintro e w1 ⟨rfl, hI1, hb1⟩
      go_wp2_with fail
      have hs1 : w.heap.size ≤ w1.heap.size := Nat.le_trans hb.size hb1.size
      refine (writeByte_any _ _ _ (hexD (s[k].toNat % 16)) _ ?_ _ hI1 ?_ ?_).mono ?_
      · rw [hexD_at _ (by omega)]
      · rw [List.length_append, List.length_singleton]; omega
      · exact hs1
      rintro e w2 ⟨rfl, hI2, hb2⟩
      have hI3 : Lib.IsBuilder 42 5 w.heap.size w.heap.size (Lib.byteCells (hexE (s.data.toList.take (k + 1)))) w2 := by
        rw [take_snoc s k hlt, hexE_snoc, hex2]; simpa using hI2
      have HI3 := Lib.hid hI3
      clear hI hI1 hI2 hI3
      go_wp2
      go_roundw
      case rel => exact ⟨k + 1, by omega, by go_num, HI3.out, (hb.trans hb1).trans hb2⟩
      case measure => simp [intOf]; omega
    · obtain rfl : k = s.size := by omega
      rw [List.take_of_length_le (by simp)] at hI
      go_wp2_with fail
      refine (Try.Builder_String_any _ _ _ _ hI hb.size).mono ?_
      rintro e w1 ⟨rfl, hb1⟩
      clear hI
      go_wp2
      go_ret
      exact ⟨rfl, hb.trans hb1⟩
end Go.Proofs.Ytdieggjnnlldeaa
