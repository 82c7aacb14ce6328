/- Chapter 1: contracts of DecodeVarint, in the model and in the program. -/
import Derived.Test.YtdieggjnnlldeaaNumB
import Derived.Test.YtdieggjnnlldeaaNumC
import Derived.Deep.RegionHeld3
import Derived.Lib.Strings
import Derived.Lib.IndexBytes
namespace Go.Proofs.Ytdieggjnnlldeaa
open Go.RowKit
set_option linter.unusedVariables false
set_option maxRecDepth 100000

/-- The number of a varint's groups, least significant first. -/
def numV : List UInt8 → Nat
  | [] => 0
  | b :: l => b.toNat % 128 + 128 * numV l
theorem numV_lt (l : List UInt8) : numV l < 128 ^ l.length := by
  induction l with
  | nil => simp [numV]
  | cons b l ih => rw [numV, List.length_cons, Nat.pow_succ]; have := Nat.mod_lt b.toNat (by omega : 128 > 0); omega
theorem numV_snoc (l : List UInt8) (b : UInt8) : numV (l ++ [b]) = numV l + 128 ^ l.length * (b.toNat % 128) := by
  induction l with
  | nil => simp [numV]
  | cons c l ih => rw [List.cons_append, numV, ih, numV, List.length_cons, Nat.pow_succ, Nat.mul_add, ← Nat.mul_assoc, Nat.mul_comm 128 (128 ^ _)]; omega
theorem pow128_7 {k : Nat} (h : k ≤ 7) : 128 ^ k ≤ 562949953421312 := Nat.le_trans (Nat.pow_le_pow_right (by omega) h) (by decide)
theorem numV_take_le (l : List UInt8) (k : Nat) (h : k ≤ 7) : numV (l.take k) ≤ 562949953421311 := by
  have h1 := numV_lt (l.take k)
  have h2 : (l.take k).length ≤ k := List.length_take_le _ _
  have h3 : 128 ^ (l.take k).length ≤ 128 ^ k := Nat.pow_le_pow_right (by omega) h2
  have := pow128_7 h
  omega

/-- Are the first k bytes the varint of their number? -/
def okAt (l : List UInt8) (k : Nat) : Bool := decide (vB (numV (l.take k)) = l.take k)
/-- The model's search from k on, n steps at most. -/
def decVAux (l : List UInt8) (k : Nat) : Nat → Nat × Nat
  | 0 => (0, 0)
  | n + 1 => if okAt l k then (numV (l.take k), k) else decVAux l (k + 1) n
def decV (l : List UInt8) : Nat × Nat := decVAux l 1 (min 7 l.length)

theorem vB_ne (m : Nat) : vB m ≠ [] := by
  by_cases h : m < 128
  · rw [vB_lt h]; simp
  · rw [vB_ge h]; simp
/-- Every byte of a varint but the last has its high bit set, the last has not. -/
theorem vB_shape (n : Nat) : ∀ m, m < n → ∀ j (h : j < (vB m).length), (128 ≤ (vB m)[j].toNat ↔ j + 1 < (vB m).length) := by
  induction n with
  | zero => intro m h; omega
  | succ n ih =>
    intro m hm j hj
    by_cases h : m < 128
    · have e := vB_lt h
      have hl : (vB m).length = 1 := by rw [e]; rfl
      obtain rfl : j = 0 := by omega
      have : (vB m)[0] = UInt8.ofNat m := by simp [e]
      rw [this, hl]
      simp
      omega
    · have e := vB_ge h
      have hl : (vB m).length = (vB (m / 128)).length + 1 := by rw [e]; rfl
      match j with
      | 0 =>
        have : (vB m)[0] = UInt8.ofNat (128 + m % 128) := by simp [e]
        have h0 : 0 < (vB (m / 128)).length := List.length_pos_iff.2 (vB_ne _)
        rw [this, hl]
        simp
        omega
      | j + 1 =>
        have : (vB m)[j + 1] = (vB (m / 128))[j]'(by omega) := by simp [e]
        rw [this, hl, ih (m / 128) (by omega) j (by omega)]
        omega
theorem okAt_shape {l : List UInt8} {k : Nat} (hk : k ≤ l.length) (h : okAt l k = true) : ∀ j (hj : j < k), (128 ≤ (l[j]'(by omega)).toNat ↔ j + 1 < k) := by
  intro j hj
  simp only [okAt, decide_eq_true_eq] at h
  have hl : (l.take k).length = k := by simp; omega
  have hs := vB_shape _ (numV (l.take k)) (Nat.lt_succ_self _) j (by rw [h, hl]; exact hj)
  have e : (vB (numV (l.take k)))[j]'(by rw [h, hl]; exact hj) = l[j]'(by omega) := by simp [h]
  rw [e, h, hl] at hs
  exact hs
theorem okAt_big {l : List UInt8} {i : Nat} (hi : i < l.length) (hb : 128 ≤ (l[i]).toNat) : okAt l (i + 1) = false := by
  cases h : okAt l (i + 1) with
  | false => rfl
  | true => have := okAt_shape (by omega) h i (by omega); omega
theorem okAt_past {l : List UInt8} {i k : Nat} (hi : i < l.length) (hb : (l[i]).toNat < 128) (hk : i + 1 < k) (hkl : k ≤ l.length) : okAt l k = false := by
  cases h : okAt l k with
  | false => rfl
  | true => have := okAt_shape hkl h i (by omega); omega
theorem decVAux_past {l : List UInt8} {i : Nat} (hi : i < l.length) (hb : (l[i]).toNat < 128) : ∀ n k, i + 1 < k → k + n ≤ l.length + 1 → decVAux l k n = (0, 0) := by
  intro n
  induction n with
  | zero => intro k _ _; rfl
  | succ n ih => intro k hk hn; rw [decVAux, okAt_past hi hb hk (by omega), if_neg (by simp)]; exact ih (k + 1) (by omega) (by omega)

theorem drop_cons (l : List UInt8) (j : Nat) (h : j < l.length) : l.drop j = l[j] :: l.drop (j + 1) := List.drop_eq_getElem_cons h
theorem numV_step (s : ByteArray) (kk j : Nat) (hk : kk ≤ s.size) (hj : j < kk) : numV ((s.data.toList.take kk).drop j) = numV ((s.data.toList.take kk).drop (j + 1)) * 128 + (s[j]'(by omega)).toNat % 128 := by
  rw [drop_cons _ j (by simp; omega), numV, List.getElem_take]
  have : s.data.toList[j]'(by simp; omega) = s[j]'(by omega) := rfl
  rw [this]
  omega
theorem numV_drop_le (l : List UInt8) (kk j : Nat) (hk : kk ≤ 7) : numV ((l.take kk).drop j) * 128 ^ j ≤ 562949953421311 := by
  have h1 := numV_lt ((l.take kk).drop j)
  have h2 : ((l.take kk).drop j).length + j ≤ 7 ∨ (l.take kk).drop j = [] := by
    by_cases h : j ≤ (l.take kk).length
    · left; have := List.length_take_le kk l; simp; omega
    · right; exact List.drop_of_length_le (by omega)
  rcases h2 with h2 | h2
  · have h3 : numV ((l.take kk).drop j) * 128 ^ j < 128 ^ (((l.take kk).drop j).length + j) := by
      rw [Nat.pow_add]; exact Nat.mul_lt_mul_of_pos_right h1 (Nat.pow_pos (by omega))
    have := pow128_7 h2
    omega
  · rw [h2]; simp [numV]

theorem encV_nat (q : Nat) (h : q ≤ 562949953421311) : encV (q : Int) = vB q := by
  unfold encV; rw [if_pos (by simp [inB]; omega)]; rfl
theorem okAt_eq (s : ByteArray) (l : List UInt8) (k q : Nat) (hl : l = s.data.toList) (hq : q = numV (l.take k)) (hk : k ≤ 7) : ((str (encV q)).toList == (s.extract 0 k).toList) = okAt l k := by
  rw [encV_nat q (by rw [hq]; exact numV_take_le l k hk), Lib.toList_data, Lib.toList_data, Lib.extract_data, ← hl, List.drop_zero, Nat.sub_zero, hq]
  unfold okAt
  rw [Bool.eq_iff_iff]
  simp [str]
theorem decV_yes {l : List UInt8} {k n : Nat} {r : Nat × Nat} (H : Hid (decVAux l k (n + 1) = r)) (h : okAt l k = true) : r = (numV (l.take k), k) := by
  rw [← H.out, decVAux, if_pos h]
theorem decV_next {l : List UInt8} {k n : Nat} {r : Nat × Nat} (H : Hid (decVAux l k (n + 1) = r)) (h : okAt l k = false) : Hid (decVAux l (k + 1) n = r) := by
  show _ = _; rw [← H.out, decVAux, if_neg (by simp [h])]

set_option maxHeartbeats 800000 in
theorem specDV (s : ByteArray) (hs : s.size ≤ maxLen) (w : World) :
    Calls Try.prog 15 #[.string s] w fun e w' => e = .returned (.tuple #[.int .i64 (decV s.data.toList).1, .int .i64 (decV s.data.toList).2]) ∧ Below w.heap.size w w' := by
  unfold maxLen at hs
  obtain ⟨l, hl⟩ : ∃ l, l = s.data.toList := ⟨_, rfl⟩
  have hll : l.length = s.size := by rw [hl]; simp
  rw [← hl]
  have Hl := Lib.hid hl
  have Hll := Lib.hid hll
  clear hl hll
  go_enter Try.func15, Try.ntmps15
  go_wp2
  go_loopw [4] (fun v wr => ∃ k : Nat, 1 ≤ k ∧ k ≤ 8 ∧ k ≤ s.size + 1 ∧ v = .int .i64 k ∧ Hid (decVAux l k (min 7 l.length + 1 - k) = decV l) ∧ Below w.heap.size w wr) (fun v _ => 9 - (intOf v).toNat)
  case atStart => exact ⟨1, by omega, by omega, by omega, rfl, show _ = _ from rfl, Below.refl _ _⟩
  case round =>
    obtain ⟨k, h1, h8, hks, rfl, Hd, hb⟩ := hrel
    by_cases h7 : k ≤ 7
    · by_cases hkl : k ≤ s.size
      · have h7' : decide ((k : Int) ≤ 7) = true := by simp; omega
        go_wp2
        go_loop [5, 6] (fun n i => ∃ j q : Nat, j ≤ k ∧ i = .int .i64 ((j : Int) - 1) ∧ n = .int .i64 q ∧ Hid (q = numV ((l.take k).drop j))) (fun _ i => (intOf i + 1).toNat)
        case atStart => exact ⟨k, 0, by omega, rfl, rfl, show _ = _ by rw [List.drop_of_length_le (List.length_take_le _ _)]; rfl⟩
        case round =>
          obtain ⟨j, q, hj, rfl, rfl, Hq⟩ := hrel
          by_cases hj0 : 1 ≤ j
          · have hjs : j - 1 < s.size := by omega
            have hq : q ≤ 4398046511103 := by
              have := numV_drop_le l k j h7
              rw [← Hq.out] at this
              have h128 : 128 ^ 1 ≤ 128 ^ j := Nat.pow_le_pow_right (by omega) hj0
              have := Nat.mul_le_mul_left q h128
              omega
            have hby := s[j - 1].toNat_lt
            go_wp2
            go_round
            case rel => exact ⟨j - 1, q * 128 + s[j - 1].toNat % 128, by omega, by go_num, by go_num, show _ = _ by rw [Hq.out, Hl.out]; have := numV_step s k (j - 1) hkl (by omega); rw [show j - 1 + 1 = j by omega] at this; exact this.symm⟩
            case measure => simp [intOf]; omega
          · obtain rfl : j = 0 := by omega
            go_wp2
            go_region_held3 (fun _ => True) (trivial) (first | (go_at_call 13; refine (specEV _ _).mono ?_; rintro e w' ⟨rfl, hb'⟩))
            have hE := okAt_eq s l k q Hl.out (by simpa using Hq.out) h7
            rw [hE]
            clear hE
            obtain ⟨n, hn⟩ : ∃ n, min 7 l.length + 1 - k = n + 1 := ⟨min 7 l.length - k, by have := Hll.out; omega⟩
            rw [hn] at Hd
            have hb2 : Below w.heap.size w w' := hb.trans (((Below.refl _ _).drew.trans hb').mono hb.size)
            cases hok : okAt l k with
            | true =>
              have hr := decV_yes Hd hok
              have Hr := Lib.hid hr
              have Hok := Lib.hid hok
              clear hr hok hn hb hb' Hd
              go_wp2
              go_ret2
              exact ⟨by rw [Hr.out]; simp only [Hq.out, List.drop_zero]; rfl, hb2⟩
            | false =>
              have Hr := decV_next Hd hok
              have Hok := Lib.hid hok
              have Hn := Lib.hid hn
              clear hok hn hb hb' Hd
              go_wp2
              go_roundw
              case rel => exact ⟨k + 1, by omega, by omega, by omega, by go_num, (by rw [show min 7 l.length + 1 - (k + 1) = n by have := Hn.out; omega]; exact Hr), hb2⟩
              case measure => simp [intOf]; omega
      · have h7' : decide ((k : Int) ≤ 7) = true := by simp; omega
        have hkl' : decide (k ≤ s.size) = false := by simp; omega
        have hr : decV l = (0, 0) := by rw [← Hd.out, show min 7 l.length + 1 - k = 0 by have := Hll.out; omega]; rfl
        have Hr := Lib.hid hr
        clear hr
        go_wp2
        go_ret2
        exact ⟨by rw [Hr.out]; rfl, hb⟩
    · have h7' : decide ((k : Int) ≤ 7) = false := by simp; omega
      have hr : decV l = (0, 0) := by rw [← Hd.out, show min 7 l.length + 1 - k = 0 by have := Hll.out; omega]; rfl
      have Hr := Lib.hid hr
      clear hr
      go_wp2
      go_ret2
      exact ⟨by rw [Hr.out]; rfl, hb⟩

def canV (n : Int) (t : List UInt8) : Int × Int := if encV n = t then (n, t.length) else (0, 0)
theorem canonV (n : Int) (t : ByteArray) (ht : t.size ≤ maxLen) (w : World) :
    Calls Try.prog 23 #[.int .i64 n, .string t] w fun e w' => e = .returned (.tuple #[.int .i64 (canV n t.data.toList).1, .int .i64 (canV n t.data.toList).2]) ∧ Below w.heap.size w w' := by
  unfold maxLen at ht
  unfold canV
  by_cases h : encV n = t.data.toList
  · have hE : (!((str (encV n)).toList == t.toList)) = false := by rw [Lib.toList_data, Lib.toList_data, h]; simp [str]
    rw [if_pos h]
    clear h
    go_enter Try.func23, Try.ntmps23
    go_wp2_with fail
    refine (implEV _ _).mono ?_
    rintro e w1 ⟨rfl, hb⟩
    go_wp2
    go_ret2
    exact ⟨by simp, hb⟩
  · have hE : (!((str (encV n)).toList == t.toList)) = true := by rw [Lib.toList_data, Lib.toList_data]; simpa [str] using h
    rw [if_neg h]
    clear h
    go_enter Try.func23, Try.ntmps23
    go_wp2_with fail
    refine (implEV _ _).mono ?_
    rintro e w1 ⟨rfl, hb⟩
    go_wp2
    go_ret2
    exact ⟨rfl, hb⟩

theorem implDV_or (l : List UInt8) (i q b : Nat) (hi : i < 7) (hq : q = numV (l.take i)) (hl : i ≤ l.length) :
    bits BinOp.or IntKind.i64 (q : Int) (wrap64 ((b : Int) % 128 * 2 ^ (7 * i))) = ((q + 128 ^ i * (b % 128) : Nat) : Int) := by
  have e1 : (2 : Int) ^ (7 * i) = ((128 ^ i : Nat) : Int) := by rw [Int.pow_mul]; norm_cast
  have hp : 128 ^ i ≤ 4398046511104 := Nat.le_trans (Nat.pow_le_pow_right (by omega) (show i ≤ 6 by omega)) (by decide)
  have hm : b % 128 * 128 ^ i ≤ 127 * 4398046511104 := Nat.mul_le_mul (by omega) hp
  have e2 : (b : Int) % 128 * 2 ^ (7 * i) = ((b % 128 * 128 ^ i : Nat) : Int) := by rw [e1]; norm_cast
  have hq2 : q < 128 ^ i := by have := numV_lt (l.take i); rw [hq]; simpa [List.length_take, Nat.min_eq_left hl] using this
  have e3 : (128 : Nat) ^ i = 2 ^ (7 * i) := by rw [Nat.pow_mul]
  rw [e2, IntWalk.wrap64_in _ ⟨by omega, by omega⟩, i64_or_nat _ _ (by omega) (by omega), Nat.or_comm, nat_join (7 * i) (b % 128 * 128 ^ i) q (by rw [e3]; exact Nat.mul_mod_left _ _) (by omega), Nat.add_comm, Nat.mul_comm]
theorem numV_take_succ (s : ByteArray) (l : List UInt8) (hl : l = s.data.toList) (i : Nat) (h : i < s.size) : numV (l.take (i + 1)) = numV (l.take i) + 128 ^ i * (s[i].toNat % 128) := by
  subst hl
  rw [take_snoc s i h, numV_snoc, List.length_take, Nat.min_eq_left (by simp; omega)]
/-- What the program answers at the first byte without the high bit is what the model finds. -/
theorem decV_at (s : ByteArray) (l : List UInt8) (hl : l = s.data.toList) (i : Nat) (h : i < s.size) (h7 : i < 7) (hb : s[i].toNat < 128) (H : decVAux l (i + 1) (min 7 l.length - i) = decV l) :
    canV (numV (l.take (i + 1)) : Nat) (s.data.toList.take (i + 1)) = (((decV l).1 : Int), ((decV l).2 : Int)) := by
  have hll : l.length = s.size := by rw [hl]; simp
  have hlb : (l[i]'(by omega)).toNat < 128 := by subst hl; exact hb
  obtain ⟨n, hn⟩ : ∃ n, min 7 l.length - i = n + 1 := ⟨min 7 l.length - i - 1, by omega⟩
  rw [hn, decVAux] at H
  rw [← hl, canV, encV_nat _ (numV_take_le l _ (by omega)), ← H]
  cases hok : okAt l (i + 1) with
  | true =>
    rw [if_pos rfl, if_pos (by simpa [okAt] using hok)]
    simp [Nat.min_eq_left (show i + 1 ≤ l.length by omega)]
  | false =>
    rw [if_neg Bool.false_ne_true, if_neg (by simp [okAt] at hok; exact hok), decVAux_past (by omega) hlb n (i + 2) (by omega) (by omega)]
    rfl

set_option maxHeartbeats 800000 in
theorem implDV (s : ByteArray) (hs : s.size ≤ maxLen) (w : World) :
    Calls Try.prog 16 #[.string s] w fun e w' => e = .returned (.tuple #[.int .i64 (decV s.data.toList).1, .int .i64 (decV s.data.toList).2]) ∧ Below w.heap.size w w' := by
  unfold maxLen at hs
  obtain ⟨l, hl⟩ : ∃ l, l = s.data.toList := ⟨_, rfl⟩
  have hll : l.length = s.size := by rw [hl]; simp
  rw [← hl]
  have Hl := Lib.hid hl
  have Hll := Lib.hid hll
  clear hl hll
  go_enter Try.func16, Try.ntmps16
  go_wp2
  all_goals
    go_loop [4, 9] (fun n v => ∃ i q : Nat, i ≤ 7 ∧ i ≤ s.size ∧ v = .int .i64 i ∧ n = .int .i64 q ∧ Hid (q = numV (l.take i)) ∧ Hid (decVAux l (i + 1) (min 7 l.length - i) = decV l)) (fun _ v => 9 - (intOf v).toNat)
    case atStart => exact ⟨0, 0, by omega, by omega, rfl, rfl, show _ = _ from rfl, show _ = _ from rfl⟩
    case round =>
      obtain ⟨i, q, h7, hks, rfl, rfl, Hq, Hd⟩ := hrel
      by_cases hi : i < 7 ∧ i < s.size
      · have hi7 := hi.1
        have his := hi.2
        have hby := s[i].toNat_lt
        obtain ⟨q2, hq2⟩ : ∃ q2, q2 = numV (l.take (i + 1)) := ⟨_, rfl⟩
        have hor := implDV_or l i q s[i].toNat hi7 Hq.out (by have := Hll.out; omega)
        rw [show q + 128 ^ i * (s[i].toNat % 128) = q2 by rw [hq2, numV_take_succ s l Hl.out i his, ← Hq.out]] at hor
        have Hq2 := Lib.hid hq2
        clear hi hq2
        by_cases hb : s[i].toNat < 128
        · have hb' : ((s[i].toNat : Int) < 128) := by omega
          have Hb := Lib.hid hb
          clear hb
          have Hex : Hid ((s.extract 0 (i + 1)).size ≤ maxLen) := show _ ≤ _ by simp [maxLen]; omega
          go_wp2_with (go_at_call 23; refine (canonV _ _ Hex.out _).mono ?_; rintro e w1 ⟨rfl, hb1⟩)
          go_ret2
          exact ⟨by rw [Hq2.out, decV_at s l Hl.out i his hi7 Hb.out Hd.out]; rfl, hb1⟩
        · have hb' : (128 ≤ (s[i].toNat : Int)) := by omega
          have Hb := Lib.hid hb
          clear hb
          go_wp2
          go_round
          case rel => exact ⟨i + 1, q2, by omega, by omega, by go_num, rfl, Hq2, show _ = _ by
            obtain ⟨n, hn⟩ : ∃ n, min 7 l.length - i = n + 1 := ⟨min 7 l.length - i - 1, by have := Hll.out; omega⟩
            have H := Hd.out
            have hbl : 128 ≤ (l[i]'(by have := Hll.out; omega)).toNat := by have := Hb.out; have h2 := Hl.out; subst h2; exact Nat.le_of_not_lt this
            rw [hn, decVAux, okAt_big (by have := Hll.out; omega) hbl, if_neg (by simp)] at H
            rw [← H, show min 7 l.length - (i + 1) = n by omega]⟩
          case measure => simp [intOf]; omega
      · have hr : decV l = (0, 0) := by rw [← Hd.out, show min 7 l.length - i = 0 by have := Hll.out; omega]; rfl
        have Hr := Lib.hid hr
        have hge : 7 ≤ i ∨ s.size ≤ i := by omega
        clear hr hi
        go_wp2
        go_ret2
        exact ⟨by rw [Hr.out]; rfl, Below.refl _ _⟩
end Go.Proofs.Ytdieggjnnlldeaa
