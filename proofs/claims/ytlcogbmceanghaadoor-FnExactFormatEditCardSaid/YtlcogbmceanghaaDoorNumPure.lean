/- Chapter 1: the plain facts on numbers and bytes; nothing of the program but the row of uint8. -/
import Derived.Test.YtlcogbmceanghaaDoorRows
import Derived.Test.YtlcogbmceanghaaDoorCodOne
import Derived.Test.YtlcogbmceanghaaDoorRelOne
import Derived.Lib.Strings
import Derived.Lib.IndexBytes
import Derived.Lib.Bytealg
namespace Go.Proofs.YtlcogbmceanghaaDoor
open Go.RowKit
set_option linter.unusedVariables false
set_option maxRecDepth 100000


/-- The k low-order bytes of m, most significant first. -/
def beB (m : Nat) : Nat → List UInt8
  | 0 => []
  | k + 1 => UInt8.ofNat (m / 256 ^ k % 256) :: beB m k

theorem beB_length (m k : Nat) : (beB m k).length = k := by induction k with
  | zero => rfl
  | succ k ih => simp [beB, ih]

def encF (m wd : Nat) : List UInt8 := if m / 256 ^ wd = 0 then beB m wd else []

theorem two_pow_wd (wd : Nat) (h1 : 1 ≤ wd) (h7 : wd ≤ 7) : wrap64 ((2 : Int) ^ (8 * wd)) = ((256 ^ wd : Nat) : Int) := by
  rcases (by omega : wd = 1 ∨ wd = 2 ∨ wd = 3 ∨ wd = 4 ∨ wd = 5 ∨ wd = 6 ∨ wd = 7) with rfl | rfl | rfl | rfl | rfl | rfl | rfl <;> simp [wrap64]

theorem Tryd.info5 : (Tryd.prog.info? 5).map (fun i => (i.zero, i.size, i.bytes)) = some (some (.int .u8 0), 1, 1) := by kernel_rfl

/-- The cells of the program's buffer after j stores from the end. -/
def cellsEF (m wd j : Nat) : List Value := (List.replicate (wd - j) (0 : UInt8) ++ beB m j).map byteV

theorem cellsEF_step (m wd j : Nat) (h : j < wd) : (cellsEF m wd j).set (wd - 1 - j) (.int .u8 ((m / 256 ^ j : Nat) % 256 : Int)) = cellsEF m wd (j + 1) := by
  unfold cellsEF
  rw [show wd - j = (wd - 1 - j) + 1 by omega, List.replicate_succ', List.append_assoc, List.map_append, List.set_append_right _ _ (by simp), show wd - (j + 1) = wd - 1 - j by omega]
  simp only [List.length_map, List.length_replicate, Nat.sub_self, List.map_append, beB, List.singleton_append, List.map_cons, List.set_cons_zero]
  congr 2
  simp [byteV]

/-- The number that a list of bytes encodes, most significant byte first. -/
def decB (l : List UInt8) : Nat := l.foldl (fun a b => a * 256 + b.toNat) 0

theorem decB_snoc (l : List UInt8) (b : UInt8) : decB (l ++ [b]) = decB l * 256 + b.toNat := by simp [decB]

theorem decB_lt' (l : List UInt8) (a : Nat) : l.foldl (fun a b => a * 256 + b.toNat) a < (a + 1) * 256 ^ l.length := by
  induction l generalizing a with
  | nil => simp
  | cons b l ih =>
    have h := ih (a * 256 + b.toNat)
    have hb := b.toNat_lt
    rw [List.foldl_cons, List.length_cons, Nat.pow_succ, Nat.mul_comm (256 ^ l.length), ← Nat.mul_assoc]
    exact Nat.lt_of_lt_of_le h (Nat.mul_le_mul_right _ (by omega))

theorem decB_lt (l : List UInt8) : decB l < 256 ^ l.length := by have h := decB_lt' l 0; rw [Nat.zero_add, Nat.one_mul] at h; exact h

theorem take_snoc (s : ByteArray) (k : Nat) (h : k < s.size) : s.data.toList.take (k + 1) = s.data.toList.take k ++ [s[k]] := by
  rw [List.take_succ_eq_append_getElem (by simpa using h)]; rfl

theorem decB_take_lt (s : ByteArray) (k : Nat) (h : k < 7) : decB (s.data.toList.take k) < 281474976710656 := by
  have h1 := decB_lt (s.data.toList.take k)
  have h2 : 256 ^ (s.data.toList.take k).length ≤ 256 ^ 6 := Nat.pow_le_pow_right (by omega) (by simp; omega)
  omega

/-- The varint of m. -/
def vB (m : Nat) : List UInt8 := if m < 128 then [UInt8.ofNat m] else UInt8.ofNat (128 + m % 128) :: vB (m / 128)

theorem vB_lt {m : Nat} (h : m < 128) : vB m = [UInt8.ofNat m] := by rw [vB, if_pos h]

theorem vB_ge {m : Nat} (h : ¬ m < 128) : vB m = UInt8.ofNat (128 + m % 128) :: vB (m / 128) := by rw [vB, if_neg h]

theorem vB_length_le (k : Nat) : ∀ m, m < 128 ^ (k + 1) → (vB m).length ≤ k + 1 := by
  induction k with
  | zero => intro m h; rw [vB_lt (by simpa using h)]; simp
  | succ k ih =>
    intro m h
    by_cases hm : m < 128
    · rw [vB_lt hm]; simp
    · rw [vB_ge hm, List.length_cons]
      have := ih (m / 128) (Nat.div_lt_of_lt_mul (by rw [Nat.pow_succ] at h; omega))
      omega

theorem vB_le7 (m : Nat) (h : m ≤ 562949953421311) : (vB m).length ≤ 7 := vB_length_le 6 m (by omega)

/-- A round and the end of both loops: what the relation says of the list. -/
theorem vB_step {d : List UInt8} {q m : Nat} (H : Hid (d ++ vB q = vB m)) (h : ¬ q < 128) : Hid ((d ++ [UInt8.ofNat (128 + q % 128)]) ++ vB (q / 128) = vB m) := by
  show _ = _; rw [← H.out, vB_ge h, List.append_assoc]; rfl

theorem vB_end {d : List UInt8} {q m : Nat} (H : Hid (d ++ vB q = vB m)) (h : q < 128) : d ++ [UInt8.ofNat q] = vB m := by
  rw [← H.out, vB_lt h]

/-- The varint of n, empty where n is out of range. -/
def encV (n : Int) : List UInt8 := if inB n 0 562949953421311 then vB n.toNat else []

/-- The number of a varint's groups, least significant first. -/
def numV : List UInt8 → Nat
  | [] => 0
  | b :: l => b.toNat % 128 + 128 * numV l

theorem numV_lt (l : List UInt8) : numV l < 128 ^ l.length := by
  induction l with
  | nil => simp [numV]
  | cons b l ih => rw [numV, List.length_cons, Nat.pow_succ]; have := Nat.mod_lt b.toNat (by omega : 128 > 0); omega

theorem numV_snoc (l : List UInt8) (b : UInt8) : numV (l ++ [b]) = numV l + 128 ^ l.length * (b.toNat % 128) := by
  induction l with
  | nil => simp [numV]
  | cons c l ih => rw [List.cons_append, numV, ih, numV, List.length_cons, Nat.pow_succ, Nat.mul_add, ← Nat.mul_assoc, Nat.mul_comm 128 (128 ^ _)]; omega

theorem pow128_7 {k : Nat} (h : k ≤ 7) : 128 ^ k ≤ 562949953421312 := Nat.le_trans (Nat.pow_le_pow_right (by omega) h) (by decide)

theorem numV_take_le (l : List UInt8) (k : Nat) (h : k ≤ 7) : numV (l.take k) ≤ 562949953421311 := by
  have h1 := numV_lt (l.take k)
  have h2 : (l.take k).length ≤ k := List.length_take_le _ _
  have h3 : 128 ^ (l.take k).length ≤ 128 ^ k := Nat.pow_le_pow_right (by omega) h2
  have := pow128_7 h
  omega

/-- Are the first k bytes the varint of their number? -/
def okAt (l : List UInt8) (k : Nat) : Bool := decide (vB (numV (l.take k)) = l.take k)

/-- The model's search from k on, n steps at most. -/
def decVAux (l : List UInt8) (k : Nat) : Nat → Nat × Nat
  | 0 => (0, 0)
  | n + 1 => if okAt l k then (numV (l.take k), k) else decVAux l (k + 1) n

def decV (l : List UInt8) : Nat × Nat := decVAux l 1 (min 7 l.length)

theorem vB_ne (m : Nat) : vB m ≠ [] := by
  by_cases h : m < 128
  · rw [vB_lt h]; simp
  · rw [vB_ge h]; simp

/-- Every byte of a varint but the last has its high bit set, the last has not. -/
theorem vB_shape (n : Nat) : ∀ m, m < n → ∀ j (h : j < (vB m).length), (128 ≤ (vB m)[j].toNat ↔ j + 1 < (vB m).length) := by
  induction n with
  | zero => intro m h; omega
  | succ n ih =>
    intro m hm j hj
    by_cases h : m < 128
    · have e := vB_lt h
      have hl : (vB m).length = 1 := by rw [e]; rfl
      obtain rfl : j = 0 := by omega
      have : (vB m)[0] = UInt8.ofNat m := by simp [e]
      rw [this, hl]
      simp
      omega
    · have e := vB_ge h
      have hl : (vB m).length = (vB (m / 128)).length + 1 := by rw [e]; rfl
      match j with
      | 0 =>
        have : (vB m)[0] = UInt8.ofNat (128 + m % 128) := by simp [e]
        have h0 : 0 < (vB (m / 128)).length := List.length_pos_iff.2 (vB_ne _)
        rw [this, hl]
        simp
        omega
      | j + 1 =>
        have : (vB m)[j + 1] = (vB (m / 128))[j]'(by omega) := by simp [e]
        rw [this, hl, ih (m / 128) (by omega) j (by omega)]
        omega

theorem okAt_shape {l : List UInt8} {k : Nat} (hk : k ≤ l.length) (h : okAt l k = true) : ∀ j (hj : j < k), (128 ≤ (l[j]'(by omega)).toNat ↔ j + 1 < k) := by
  intro j hj
  simp only [okAt, decide_eq_true_eq] at h
  have hl : (l.take k).length = k := by simp; omega
  have hs := vB_shape _ (numV (l.take k)) (Nat.lt_succ_self _) j (by rw [h, hl]; exact hj)
  have e : (vB (numV (l.take k)))[j]'(by rw [h, hl]; exact hj) = l[j]'(by omega) := by simp [h]
  rw [e, h, hl] at hs
  exact hs

theorem okAt_big {l : List UInt8} {i : Nat} (hi : i < l.length) (hb : 128 ≤ (l[i]).toNat) : okAt l (i + 1) = false := by
  cases h : okAt l (i + 1) with
  | false => rfl
  | true => have := okAt_shape (by omega) h i (by omega); omega

theorem okAt_past {l : List UInt8} {i k : Nat} (hi : i < l.length) (hb : (l[i]).toNat < 128) (hk : i + 1 < k) (hkl : k ≤ l.length) : okAt l k = false := by
  cases h : okAt l k with
  | false => rfl
  | true => have := okAt_shape hkl h i (by omega); omega

theorem decVAux_past {l : List UInt8} {i : Nat} (hi : i < l.length) (hb : (l[i]).toNat < 128) : ∀ n k, i + 1 < k → k + n ≤ l.length + 1 → decVAux l k n = (0, 0) := by
  intro n
  induction n with
  | zero => intro k _ _; rfl
  | succ n ih => intro k hk hn; rw [decVAux, okAt_past hi hb hk (by omega), if_neg (by simp)]; exact ih (k + 1) (by omega) (by omega)

theorem drop_cons (l : List UInt8) (j : Nat) (h : j < l.length) : l.drop j = l[j] :: l.drop (j + 1) := List.drop_eq_getElem_cons h

theorem numV_step (s : ByteArray) (kk j : Nat) (hk : kk ≤ s.size) (hj : j < kk) : numV ((s.data.toList.take kk).drop j) = numV ((s.data.toList.take kk).drop (j + 1)) * 128 + (s[j]'(by omega)).toNat % 128 := by
  rw [drop_cons _ j (by simp; omega), numV, List.getElem_take]
  have : s.data.toList[j]'(by simp; omega) = s[j]'(by omega) := rfl
  rw [this]
  omega

theorem numV_drop_le (l : List UInt8) (kk j : Nat) (hk : kk ≤ 7) : numV ((l.take kk).drop j) * 128 ^ j ≤ 562949953421311 := by
  have h1 := numV_lt ((l.take kk).drop j)
  have h2 : ((l.take kk).drop j).length + j ≤ 7 ∨ (l.take kk).drop j = [] := by
    by_cases h : j ≤ (l.take kk).length
    · left; have := List.length_take_le kk l; simp; omega
    · right; exact List.drop_of_length_le (by omega)
  rcases h2 with h2 | h2
  · have h3 : numV ((l.take kk).drop j) * 128 ^ j < 128 ^ (((l.take kk).drop j).length + j) := by
      rw [Nat.pow_add]; exact Nat.mul_lt_mul_of_pos_right h1 (Nat.pow_pos (by omega))
    have := pow128_7 h2
    omega
  · rw [h2]; simp [numV]

theorem encV_nat (q : Nat) (h : q ≤ 562949953421311) : encV (q : Int) = vB q := by
  unfold encV; rw [if_pos (by simp [inB]; omega)]; rfl

theorem okAt_eq (s : ByteArray) (l : List UInt8) (k q : Nat) (hl : l = s.data.toList) (hq : q = numV (l.take k)) (hk : k ≤ 7) : ((str (encV q)).toList == (s.extract 0 k).toList) = okAt l k := by
  rw [encV_nat q (by rw [hq]; exact numV_take_le l k hk), Lib.toList_data, Lib.toList_data, Lib.extract_data, ← hl, List.drop_zero, Nat.sub_zero, hq]
  unfold okAt
  rw [Bool.eq_iff_iff]
  simp [str]

theorem decV_yes {l : List UInt8} {k n : Nat} {r : Nat × Nat} (H : Hid (decVAux l k (n + 1) = r)) (h : okAt l k = true) : r = (numV (l.take k), k) := by
  rw [← H.out, decVAux, if_pos h]

theorem decV_next {l : List UInt8} {k n : Nat} {r : Nat × Nat} (H : Hid (decVAux l k (n + 1) = r)) (h : okAt l k = false) : Hid (decVAux l (k + 1) n = r) := by
  show _ = _; rw [← H.out, decVAux, if_neg (by simp [h])]

def canV (n : Int) (t : List UInt8) : Int × Int := if encV n = t then (n, t.length) else (0, 0)

theorem implDV_or (l : List UInt8) (i q b : Nat) (hi : i < 7) (hq : q = numV (l.take i)) (hl : i ≤ l.length) :
    bits BinOp.or IntKind.i64 (q : Int) (wrap64 ((b : Int) % 128 * 2 ^ (7 * i))) = ((q + 128 ^ i * (b % 128) : Nat) : Int) := by
  have e1 : (2 : Int) ^ (7 * i) = ((128 ^ i : Nat) : Int) := by rw [Int.pow_mul]; norm_cast
  have hp : 128 ^ i ≤ 4398046511104 := Nat.le_trans (Nat.pow_le_pow_right (by omega) (show i ≤ 6 by omega)) (by decide)
  have hm : b % 128 * 128 ^ i ≤ 127 * 4398046511104 := Nat.mul_le_mul (by omega) hp
  have e2 : (b : Int) % 128 * 2 ^ (7 * i) = ((b % 128 * 128 ^ i : Nat) : Int) := by rw [e1]; norm_cast
  have hq2 : q < 128 ^ i := by have := numV_lt (l.take i); rw [hq]; simpa [List.length_take, Nat.min_eq_left hl] using this
  have e3 : (128 : Nat) ^ i = 2 ^ (7 * i) := by rw [Nat.pow_mul]
  rw [e2, IntWalk.wrap64_in _ ⟨by omega, by omega⟩, i64_or_nat _ _ (by omega) (by omega), Nat.or_comm, nat_join (7 * i) (b % 128 * 128 ^ i) q (by rw [e3]; exact Nat.mul_mod_left _ _) (by omega), Nat.add_comm, Nat.mul_comm]

theorem numV_take_succ (s : ByteArray) (l : List UInt8) (hl : l = s.data.toList) (i : Nat) (h : i < s.size) : numV (l.take (i + 1)) = numV (l.take i) + 128 ^ i * (s[i].toNat % 128) := by
  subst hl
  rw [take_snoc s i h, numV_snoc, List.length_take, Nat.min_eq_left (by simp; omega)]

/-- What the program answers at the first byte without the high bit is what the model finds. -/
theorem decV_at (s : ByteArray) (l : List UInt8) (hl : l = s.data.toList) (i : Nat) (h : i < s.size) (h7 : i < 7) (hb : s[i].toNat < 128) (H : decVAux l (i + 1) (min 7 l.length - i) = decV l) :
    canV (numV (l.take (i + 1)) : Nat) (s.data.toList.take (i + 1)) = (((decV l).1 : Int), ((decV l).2 : Int)) := by
  have hll : l.length = s.size := by rw [hl]; simp
  have hlb : (l[i]'(by omega)).toNat < 128 := by subst hl; exact hb
  obtain ⟨n, hn⟩ : ∃ n, min 7 l.length - i = n + 1 := ⟨min 7 l.length - i - 1, by omega⟩
  rw [hn, decVAux] at H
  rw [← hl, canV, encV_nat _ (numV_take_le l _ (by omega)), ← H]
  cases hok : okAt l (i + 1) with
  | true =>
    rw [if_pos rfl, if_pos (by simpa [okAt] using hok)]
    simp [Nat.min_eq_left (show i + 1 ≤ l.length by omega)]
  | false =>
    rw [if_neg Bool.false_ne_true, if_neg (by simp [okAt] at hok; exact hok), decVAux_past (by omega) hlb n (i + 2) (by omega) (by omega)]
    rfl

def hexTab : List UInt8 := [48, 49, 50, 51, 52, 53, 54, 55, 56, 57, 97, 98, 99, 100, 101, 102]

/-- The hexadecimal digit of k. -/
def hexD (k : Nat) : UInt8 := hexTab.getD k 0

theorem hexD_at (k : Nat) (hk : k < 16) : ({ data := #[48, 49, 50, 51, 52, 53, 54, 55, 56, 57, 97, 98, 99, 100, 101, 102] } : ByteArray)[k]'(by simpa [ByteArray.size] using hk) = hexD k := by
  revert k; decide

def hex2 (b : UInt8) : List UInt8 := [hexD (b.toNat / 16), hexD (b.toNat % 16)]

def hexE (l : List UInt8) : List UInt8 := l.flatMap hex2

theorem hexE_length (l : List UInt8) : (hexE l).length = 2 * l.length := by
  induction l with
  | nil => rfl
  | cons b l ih => rw [hexE, List.flatMap_cons, List.length_append, ← hexE, ih]; simp [hex2]; omega

theorem hexE_snoc (l : List UInt8) (b : UInt8) : hexE (l ++ [b]) = hexE l ++ hex2 b := by simp [hexE, List.flatMap_append]

theorem two_oneCell (x y : Int) : ∀ u ∈ [Value.int .u8 x, .int .u8 y], u.oneCell' = true := by
  intro u hu; simp at hu; rcases hu with rfl | rfl <;> rfl

theorem two_at (w : World) (x y : Value) (e : TypeId) : ∀ j u, [x, y][j]? = some u → (w.alloc (.cells #[x, y] e)).cell? ((⟨w.heap.size, 0, none⟩ : Addr).add j) = some u := by
  intro j u hj
  match j, hj with
  | 0, hj => simp at hj; subst hj; simp [Addr.add, World.cell?_alloc_at]
  | 1, hj => simp at hj; subst hj; simp [Addr.add, World.cell?_alloc_at]

theorem hexTab_at (k : Nat) (hk : k < 16) : ({ data := #[48, 49, 50, 51, 52, 53, 54, 55, 56, 57, 97, 98, 99, 100, 101, 102] } : ByteArray)[k]'(by simpa [ByteArray.size] using hk) = hexD k := hexD_at k hk

/-- The value of a hexadecimal digit, or -1. -/
def fh (b : UInt8) : Int := Lib.indexByte hexTab b

theorem fh_cases (b : UInt8) : fh b = -1 ∨ ∃ n : Nat, n < 16 ∧ fh b = n := by
  have : ∀ b : Fin 256, fh (UInt8.ofFin b) = -1 ∨ ∃ n : Fin 16, fh (UInt8.ofFin b) = (n.val : Int) := by decide +kernel
  rcases this b.toFin with h | ⟨n, h⟩
  · exact .inl h
  · exact .inr ⟨n.val, n.isLt, h⟩

theorem hexTab_drop (k : Nat) (hk : k < 16) : hexTab.drop k = hexD k :: hexTab.drop (k + 1) := by revert k; decide

theorem index_cons (a b : UInt8) (l : List UInt8) : Lib.indexByte (a :: l) b = if a == b then 0 else if Lib.indexByte l b == -1 then -1 else Lib.indexByte l b + 1 := rfl

def restIx (k : Nat) (b : UInt8) : Int := if Lib.indexByte (hexTab.drop k) b = -1 then -1 else k + Lib.indexByte (hexTab.drop k) b

theorem restIx_zero (b : UInt8) : restIx 0 b = fh b := by
  unfold restIx fh; simp; intro h; exact h.symm

theorem restIx_hit (k : Nat) (hk : k < 16) (b : UInt8) (h : hexD k = b) : restIx k b = k := by
  unfold restIx; rw [hexTab_drop k hk, index_cons]; simp [h]

theorem restIx_miss (k : Nat) (hk : k < 16) (b : UInt8) (h : ¬ hexD k = b) : restIx k b = restIx (k + 1) b := by
  unfold restIx; rw [hexTab_drop k hk, index_cons]
  have := Lib.indexByte_ge (hexTab.drop (k + 1)) b
  simp [h]
  split <;> simp_all <;> omega

theorem restIx_end (b : UInt8) : restIx 16 b = -1 := by unfold restIx; simp [hexTab, Lib.indexByte]

/-- What DecodeHex answers. -/
def decH : List UInt8 → Option (List UInt8)
  | [] => some []
  | [_] => none
  | a :: b :: t => if fh a = -1 ∨ fh b = -1 then none else (decH t).map (UInt8.ofNat (16 * (fh a).toNat + (fh b).toNat) :: ·)

theorem decH_odd : ∀ (n : Nat) (l : List UInt8), l.length = 2 * n + 1 → decH l = none := by
  intro n
  induction n with
  | zero => intro l h; match l, h with | [_], _ => rfl
  | succ n ih =>
    intro l h
    match l, h with
    | a :: b :: t, h => rw [decH, ih t (by simp at h; omega)]; simp

/-- What stands behind the first i bytes, the bytes acc in hand. -/
def restH (l acc : List UInt8) (i : Nat) : Option (List UInt8) := (decH (l.drop i)).map (acc ++ ·)

theorem drop2 (s : ByteArray) (i : Nat) (h : i + 1 < s.size) : s.data.toList.drop i = s[i] :: s[i + 1] :: s.data.toList.drop (i + 2) := by
  rw [List.drop_eq_getElem_cons (by simp; omega), List.drop_eq_getElem_cons (by simp; omega)]; rfl

theorem restH_bad (s : ByteArray) (acc : List UInt8) (i : Nat) (h : i + 1 < s.size) (hb : fh s[i] = -1 ∨ fh s[i + 1] = -1) : restH s.data.toList acc i = none := by
  unfold restH; rw [drop2 s i h, decH, if_pos hb]; rfl

theorem restH_good (s : ByteArray) (acc : List UInt8) (i : Nat) (h : i + 1 < s.size) (x y : Nat) (hx : fh s[i] = x) (hy : fh s[i + 1] = y) : restH s.data.toList acc i = restH s.data.toList (acc ++ [UInt8.ofNat (16 * x + y)]) (i + 2) := by
  unfold restH; rw [drop2 s i h, decH, if_neg (by rw [hx, hy]; omega), hx, hy]
  simp [Option.map_map, Function.comp_def]

theorem restH_end (s : ByteArray) (acc : List UInt8) (i : Nat) (h : s.size ≤ i) : restH s.data.toList acc i = some acc := by
  unfold restH; rw [List.drop_of_length_le (by simpa using h)]; simp [decH]

def resH (r : Option (List UInt8)) : Value := .tuple #[.string (str (r.getD [])), .bool r.isSome]
end Go.Proofs.YtlcogbmceanghaaDoor

