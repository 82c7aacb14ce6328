/- Chapter 1: the decoders undo the encoders: the plain facts. -/
import Derived.Test.YtdieggjnnlldeaaDoorDraw5
import Derived.Test.YtdieggjnnlldeaaDoorNumP
namespace Go.Proofs.YtdieggjnnlldeaaDoor
open Go.RowKit
set_option linter.unusedVariables false
set_option maxRecDepth 100000

theorem numV_vB (n : Nat) : ∀ m, m < n → numV (vB m) = m := by
  induction n with
  | zero => intro m h; omega
  | succ n ih =>
    intro m h
    by_cases hm : m < 128
    · rw [vB_lt hm]; simp [numV]; omega
    · rw [vB_ge hm, numV, ih (m / 128) (by omega)]; simp; omega
theorem decVAux_skip (l : List UInt8) (p : Nat) (hp : okAt l p = true) : ∀ n k, k ≤ p → p < k + n → (∀ j, k ≤ j → j < p → okAt l j = false) → decVAux l k n = (numV (l.take p), p) := by
  intro n
  induction n with
  | zero => intro k h1 h2; omega
  | succ n ih =>
    intro k h1 h2 h3
    by_cases hk : k = p
    · subst hk; rw [decVAux, if_pos hp]
    · rw [decVAux, h3 k (Nat.le_refl _) (by omega), if_neg (by simp)]
      exact ih (k + 1) (by omega) (by omega) (fun j hj1 hj2 => h3 j (by omega) hj2)
/-- The varint at the head of whatever follows is found. -/
theorem decV_vB (m : Nat) (hm : m ≤ 562949953421311) (t : List UInt8) : decV (vB m ++ t) = (m, (vB m).length) := by
  have h7 := vB_le7 m hm
  have hpos : 0 < (vB m).length := List.length_pos_iff.2 (vB_ne _)
  have htake : (vB m ++ t).take (vB m).length = vB m := by simp
  have hok : okAt (vB m ++ t) (vB m).length = true := by
    unfold okAt; rw [htake, numV_vB _ _ (Nat.lt_succ_self _)]; simp
  unfold decV
  rw [decVAux_skip _ _ hok _ 1 (by omega) (by rw [List.length_append]; omega) ?_, htake, numV_vB _ _ (Nat.lt_succ_self _)]
  intro j hj1 hj2
  obtain ⟨i, rfl⟩ : ∃ i, j = i + 1 := ⟨j - 1, by omega⟩
  have hil : i < (vB m).length := by omega
  refine okAt_big (by rw [List.length_append]; omega) ?_
  rw [List.getElem_append_left hil]
  exact (vB_shape _ m (Nat.lt_succ_self _) i hil).2 (by omega)
/-- What is found is a varint. -/
theorem decVAux_ok (l : List UInt8) : ∀ n k, 1 ≤ k → k + n ≤ l.length + 1 → k + n ≤ 8 → decVAux l k n = (0, 0) ∨ ∃ p, 1 ≤ p ∧ p ≤ l.length ∧ p ≤ 7 ∧ okAt l p = true ∧ decVAux l k n = (numV (l.take p), p) := by
  intro n
  induction n with
  | zero => intro k _ _ _; exact .inl rfl
  | succ n ih =>
    intro k h1 h2 h8
    cases hok : okAt l k with
    | true => exact .inr ⟨k, h1, by omega, by omega, hok, by rw [decVAux, if_pos hok]⟩
    | false => rw [decVAux, hok, if_neg (by simp)]; exact ih (k + 1) (by omega) (by omega) (by omega)
theorem decV_ok (l : List UInt8) : decV l = (0, 0) ∨ ∃ p, 1 ≤ p ∧ p ≤ l.length ∧ vB (numV (l.take p)) = l.take p ∧ numV (l.take p) ≤ 562949953421311 ∧ decV l = (numV (l.take p), p) := by
  rcases decVAux_ok l (min 7 l.length) 1 (Nat.le_refl _) (by omega) (by omega) with h | ⟨p, h1, h2, h7, hok, h⟩
  · exact .inl h
  · exact .inr ⟨p, h1, h2, by simpa [okAt] using hok, numV_take_le l p h7, h⟩

theorem decB_beB (m k : Nat) : decB (beB m k) = m % 256 ^ k := by
  have key : ∀ k a, (beB m k).foldl (fun a b => a * 256 + b.toNat) a = a * 256 ^ k + m % 256 ^ k := by
    intro k
    induction k with
    | zero => intro a; simp [beB, Nat.mod_one]
    | succ k ih =>
      intro a
      rw [beB, List.foldl_cons, ih]
      have e : (UInt8.ofNat (m / 256 ^ k % 256)).toNat = m / 256 ^ k % 256 := by simp
      rw [e, Nat.pow_succ, Nat.add_mul, Nat.mul_assoc, Nat.mul_comm 256 (256 ^ k), Nat.mod_mul, Nat.mul_comm (256 ^ k) (m / 256 ^ k % 256)]
      omega
  have := key k 0
  rw [Nat.zero_mul, Nat.zero_add] at this
  exact this

theorem fh_hexD (k : Nat) (h : k < 16) : fh (hexD k) = k := by
  have : ∀ k : Fin 16, fh (hexD k.val) = (k.val : Int) := by decide +kernel
  exact this ⟨k, h⟩
theorem decH_hexE (l : List UInt8) : decH (hexE l) = some l := by
  induction l with
  | nil => rfl
  | cons b l ih =>
    have e : hexE (b :: l) = hexD (b.toNat / 16) :: hexD (b.toNat % 16) :: hexE l := rfl
    have hb := b.toNat_lt
    rw [e, decH, fh_hexD _ (by omega), fh_hexD _ (by omega), if_neg (by omega), ih]
    simp only [Option.map_some, Int.toNat_natCast]
    have : 16 * (b.toNat / 16) + b.toNat % 16 = b.toNat := by omega
    rw [this]
    simp

theorem pI_itoa_big (n : Int) (h0 : -9223372036854775808 ≤ n) (h1 : n ≤ 9223372036854775807) (h : n < -999999999 ∨ 999999999 < n) : pI (Lib.itoa n) = none := by
  unfold pI
  rw [if_neg]
  intro hh
  have hb := cand_bound hh.1
  have e := congrArg Lib.atoi hh.2.2
  rw [atoi_itoa _ (by omega) (by omega), atoi_itoa _ h0 h1] at e
  have := Option.some.inj e
  omega
end Go.Proofs.YtdieggjnnlldeaaDoor
