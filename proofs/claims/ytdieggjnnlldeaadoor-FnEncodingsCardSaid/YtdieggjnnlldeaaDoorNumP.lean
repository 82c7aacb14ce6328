/- Chapter 1: ParseInt, the plain facts. -/
import Derived.Test.YtdieggjnnlldeaaDoorNumG
import Derived.Lib.AtoiTie
namespace Go.Proofs.YtdieggjnnlldeaaDoor
open Go.RowKit
set_option linter.unusedVariables false
set_option maxRecDepth 100000

def isDg (b : UInt8) : Bool := decide (48 ≤ b.toNat) && decide (b.toNat ≤ 57)
/-- One byte of the model's loop: the number so far and the count of digits. -/
def digStep (p : Nat × Nat) (b : UInt8) : Nat × Nat := if isDg b then (p.1 * 10 + (b.toNat - 48), p.2 + 1) else p
def digF (l : List UInt8) : Nat × Nat := l.foldl digStep (0, 0)
theorem digF_snoc (l : List UInt8) (b : UInt8) : digF (l ++ [b]) = digStep (digF l) b := by simp [digF]
theorem digFold_lt : ∀ (l : List UInt8) (p : Nat × Nat), p.1 < 10 ^ p.2 → (l.foldl digStep p).1 < 10 ^ (l.foldl digStep p).2 ∧ (l.foldl digStep p).2 ≤ p.2 + l.length := by
  intro l
  induction l with
  | nil => intro p h; exact ⟨h, by simp⟩
  | cons b l ih =>
    intro p h
    rw [List.foldl_cons]
    have : (digStep p b).1 < 10 ^ (digStep p b).2 ∧ (digStep p b).2 ≤ p.2 + 1 := by
      unfold digStep
      split
      · rename_i hd
        simp only [isDg, Bool.and_eq_true, decide_eq_true_eq] at hd
        simp only [Nat.pow_succ]
        exact ⟨by omega, by omega⟩
      · exact ⟨h, by omega⟩
    obtain ⟨h1, h2⟩ := ih _ this.1
    exact ⟨h1, by rw [List.length_cons]; omega⟩
theorem digF_lt (l : List UInt8) : (digF l).1 < 10 ^ (digF l).2 := (digFold_lt l (0, 0) (by simp)).1
theorem digF_count (l : List UInt8) : (digF l).2 ≤ l.length := by
  have h := (digFold_lt l (0, 0) (by simp)).2
  rw [Nat.zero_add] at h
  exact h

def cand (l : List UInt8) : Int := if l.head? = some 45 then -((digF (l.take 11)).1 : Int) else (digF (l.take 11)).1
/-- What ParseInt answers. -/
def pI (l : List UInt8) : Option Int := if (digF (l.take 11)).2 ≤ 9 ∧ l.length ≤ 10 ∧ Lib.itoa (cand l) = l then some (cand l) else none
theorem cand_bound {l : List UInt8} (h : (digF (l.take 11)).2 ≤ 9) : -999999999 ≤ cand l ∧ cand l ≤ 999999999 := by
  have h1 := digF_lt (l.take 11)
  have h2 : 10 ^ (digF (l.take 11)).2 ≤ 10 ^ 9 := Nat.pow_le_pow_right (by omega) h
  unfold cand
  split <;> omega
theorem cand_wide (l : List UInt8) : -99999999999 ≤ cand l ∧ cand l ≤ 99999999999 := by
  have h1 := digF_lt (l.take 11)
  have h3 := digF_count (l.take 11)
  have h4 : (l.take 11).length ≤ 11 := List.length_take_le _ _
  have h2 : 10 ^ (digF (l.take 11)).2 ≤ 10 ^ 11 := Nat.pow_le_pow_right (by omega) (by omega)
  unfold cand
  split <;> omega

theorem digit_byte (d : Nat) (h : d < 10) : (UInt8.ofNat (48 + d)).toNat = 48 + d := by simp; omega
theorem isDg_byte (d : Nat) (h : d < 10) : isDg (UInt8.ofNat (48 + d)) = true := by unfold isDg; rw [digit_byte d h]; simp; omega
theorem digF_dec (n : Nat) : ∀ u, u < n → digF (Lib.decDigits u) = (u, (Lib.decDigits u).length) := by
  induction n with
  | zero => intro u h; omega
  | succ n ih =>
    intro u h
    by_cases hu : u < 10
    · rw [Lib.decDigits_one hu]
      simp only [digF, List.foldl_cons, List.foldl_nil, digStep, isDg_byte u hu, if_true, digit_byte u hu, List.length_singleton]
      congr 1; omega
    · rw [decDigits_snoc hu, digF_snoc, ih (u / 10) (by omega)]
      simp only [digStep, isDg_byte (u % 10) (by omega), if_true, digit_byte (u % 10) (by omega), List.length_append, List.length_singleton]
      congr 1; omega
theorem decFrom_append : ∀ (a b : List UInt8) (acc : Nat), Lib.decFrom acc (a ++ b) = (Lib.decFrom acc a).bind fun m => Lib.decFrom m b := by
  intro a
  induction a with
  | nil => intro b acc; simp [Lib.decFrom]
  | cons x a ih =>
    intro b acc
    rw [List.cons_append, Lib.decFrom, Lib.decFrom]
    cases Lib.digitVal x with
    | none => rfl
    | some d => exact ih b _
theorem digitVal_byte (d : Nat) (h : d < 10) : Lib.digitVal (UInt8.ofNat (48 + d)) = some d := by
  unfold Lib.digitVal; rw [digit_byte d h, if_pos (by omega)]; congr 1; omega
theorem decFrom_dec (n : Nat) : ∀ u, u < n → Lib.decFrom 0 (Lib.decDigits u) = some u := by
  induction n with
  | zero => intro u h; omega
  | succ n ih =>
    intro u h
    by_cases hu : u < 10
    · rw [Lib.decDigits_one hu, Lib.decFrom, digitVal_byte u hu]; simp [Lib.decFrom]
    · rw [decDigits_snoc hu, decFrom_append, ih (u / 10) (by omega)]
      simp only [Option.bind_some, Lib.decFrom, digitVal_byte (u % 10) (by omega)]
      congr 1; omega
theorem dec_head (n : Nat) : ∀ u, u < n → ∃ d t, d < 10 ∧ Lib.decDigits u = UInt8.ofNat (48 + d) :: t := by
  induction n with
  | zero => intro u h; omega
  | succ n ih =>
    intro u h
    by_cases hu : u < 10
    · exact ⟨u, [], hu, Lib.decDigits_one hu⟩
    · obtain ⟨d, t, hd, ht⟩ := ih (u / 10) (by omega)
      exact ⟨d, t ++ [UInt8.ofNat (48 + u % 10)], hd, by rw [decDigits_snoc hu, ht]; rfl⟩
theorem dec_len (k : Nat) : ∀ u, u < 10 ^ (k + 1) → (Lib.decDigits u).length ≤ k + 1 := by
  induction k with
  | zero => intro u h; rw [Lib.decDigits_one (by simpa using h)]; simp
  | succ k ih =>
    intro u h
    by_cases hu : u < 10
    · rw [Lib.decDigits_one hu]; simp
    · rw [decDigits_snoc hu, List.length_append, List.length_singleton]
      have := ih (u / 10) (Nat.div_lt_of_lt_mul (by rw [Nat.pow_succ] at h; omega))
      omega
theorem byte_ne (d : Nat) (h : d < 10) (c : UInt8) (hc : c.toNat < 48) : UInt8.ofNat (48 + d) ≠ c := by
  intro e
  have := congrArg UInt8.toNat e
  rw [digit_byte d h] at this
  omega
theorem atoi_itoa (n : Int) (h0 : -9223372036854775808 ≤ n) (h1 : n ≤ 9223372036854775807) : Lib.atoi (Lib.itoa n) = some n := by
  unfold Lib.itoa
  split
  · rename_i hn
    obtain ⟨d, t, hd, ht⟩ := dec_head _ n.natAbs (Nat.lt_succ_self _)
    have h := decFrom_dec _ n.natAbs (Nat.lt_succ_self _)
    simp only [Lib.atoi, Lib.decNat, ht, List.isEmpty_cons]
    rw [← ht, h]
    simp
    omega
  · rename_i hn
    obtain ⟨d, t, hd, ht⟩ := dec_head _ n.toNat (Nat.lt_succ_self _)
    have h := decFrom_dec _ n.toNat (Nat.lt_succ_self _)
    rw [ht]
    simp only [Lib.atoi]
    rw [if_neg (by simpa using byte_ne d hd 45 (by decide)), if_neg (by simpa using byte_ne d hd 43 (by decide)), ← ht]
    simp only [Lib.decNat, ht, List.isEmpty_cons]
    rw [← ht, h]
    simp
    omega
theorem itoa_len9 (n : Int) (h0 : -999999999 ≤ n) (h1 : n ≤ 999999999) : (Lib.itoa n).length ≤ 10 := by
  unfold Lib.itoa
  split
  · have := dec_len 8 n.natAbs (by omega); rw [List.length_cons]; omega
  · have := dec_len 8 n.toNat (by omega); omega
theorem pI_itoa (n : Int) (h0 : -999999999 ≤ n) (h1 : n ≤ 999999999) : pI (Lib.itoa n) = some n := by
  have hl := itoa_len9 n h0 h1
  have hc : (digF ((Lib.itoa n).take 11)).2 ≤ 9 ∧ cand (Lib.itoa n) = n := by
    rw [List.take_of_length_le (by omega)]
    unfold cand
    rw [List.take_of_length_le (by omega)]
    unfold Lib.itoa
    split
    · rename_i hn
      have e : digF (45 :: Lib.decDigits n.natAbs) = digF (Lib.decDigits n.natAbs) := by
        simp only [digF, List.foldl_cons]; rfl
      rw [e, digF_dec _ _ (Nat.lt_succ_self _), List.head?_cons, if_pos rfl]
      have := dec_len 8 n.natAbs (by omega)
      exact ⟨by simpa using this, by simp; omega⟩
    · rename_i hn
      rw [digF_dec _ _ (Nat.lt_succ_self _)]
      obtain ⟨d, t, hd, ht⟩ := dec_head _ n.toNat (Nat.lt_succ_self _)
      have := dec_len 8 n.toNat (by omega)
      refine ⟨by simpa using this, ?_⟩
      rw [ht, List.head?_cons, if_neg (by simpa using byte_ne d hd 45 (by decide))]
      simp
      omega
  unfold pI
  rw [hc.2, if_pos ⟨hc.1, hl, rfl⟩]
theorem pI_nil : pI [] = none := by
  unfold pI
  rw [if_neg]
  intro h
  have := h.2.2
  simp [cand, digF, Lib.itoa, Lib.decDigits_one] at this
/-- The program's answer, from strconv.Atoi's. -/
def pImpl (l : List UInt8) : Option Int := match Lib.atoiAll l with
  | .ok n => if -999999999 ≤ n ∧ n ≤ 999999999 ∧ Lib.itoa n = l then some n else none
  | _ => none
theorem pImpl_eq (l : List UInt8) : pImpl l = pI l := by
  have key : ∀ n, -999999999 ≤ n → n ≤ 999999999 → Lib.itoa n = l → pImpl l = some n := by
    intro n h0 h1 h
    have hl := itoa_len9 n h0 h1
    rw [h] at hl
    have ha : Lib.atoiAll l = .ok n := by
      rw [Lib.atoiAll_short l (by omega), ← h, atoi_itoa n (by omega) (by omega)]; rfl
    unfold pImpl
    rw [ha]
    exact if_pos ⟨h0, h1, h⟩
  unfold pI
  split
  · rename_i h
    have hb := cand_bound h.1
    exact key _ hb.1 hb.2 h.2.2
  · rename_i h
    cases hp : pImpl l with
    | none => rfl
    | some n =>
      exfalso
      unfold pImpl at hp
      split at hp
      · split at hp
        · rename_i h2
          obtain ⟨h0, h1, h3⟩ := h2
          have := pI_itoa _ h0 h1
          rw [h3] at this
          unfold pI at this
          rw [if_neg h] at this
          cases this
        · cases hp
      · cases hp

def resP (r : Option Int) : Value := .tuple #[.int .i64 (r.getD 0), .bool r.isSome]
theorem digF_take (s : ByteArray) (i : Nat) (h : i < s.size) : digF (s.data.toList.take (i + 1)) = digStep (digF (s.data.toList.take i)) s[i] := by
  rw [List.take_succ_eq_append_getElem (by simpa using h), digF_snoc]; rfl

set_option maxHeartbeats 1600000 in
theorem specPI (s : ByteArray) (hs : s.size ≤ 1048576) (w : World) :
    Calls Tryd.prog 19 #[.string s] w fun e w' => e = .returned (resP (pI s.data.toList)) ∧ Below w.heap.size w w' := by
  go_enter Tryd.func19, Tryd.ntmps19
  go_wp2
  go_loop [4, 5, 6] (fun n c v => ∃ i k q : Nat, i ≤ 11 ∧ i ≤ s.size ∧ k ≤ i ∧ v = .int .i64 i ∧ c = .int .i64 k ∧ n = .int .i64 q ∧ q ≤ 99999999999 ∧ Hid (digF (s.data.toList.take i) = (q, k))) (fun _ _ v => 12 - (intOf v).toNat)
  case atStart => exact ⟨0, 0, 0, by omega, by omega, by omega, rfl, rfl, rfl, by omega, show _ = _ from rfl⟩
  case round =>
    obtain ⟨i, k, q, h11, hsz, hki, rfl, rfl, rfl, hq, Hd⟩ := hrel
    by_cases hi : i < 11 ∧ i < s.size
    · have hi1 := hi.1
      have hi2 := hi.2
      have hby := s[i].toNat_lt
      have hnext := digF_take s i hi2
      rw [Hd.out] at hnext
      have hlt := digF_lt (s.data.toList.take (i + 1))
      have hct := digF_count (s.data.toList.take (i + 1))
      have hqn : (digF (s.data.toList.take (i + 1))).1 ≤ 99999999999 := by
        have h2 : 10 ^ (digF (s.data.toList.take (i + 1))).2 ≤ 10 ^ 11 := Nat.pow_le_pow_right (by omega) (by have := List.length_take_le (i + 1) s.data.toList; omega)
        omega
      have hG : decide ((i : Int) < (s.size : Int)) = true := decide_eq_true (by omega)
      have hG' : decide (i < s.size) = true := decide_eq_true (by omega)
      by_cases hd : 48 ≤ s[i].toNat ∧ s[i].toNat ≤ 57
      · have hd1 := hd.1
        have hd2 := hd.2
        have hst : digStep (q, k) s[i] = (q * 10 + (s[i].toNat - 48), k + 1) := by simp [digStep, isDg, hd1, hd2]
        rw [hst] at hnext
        rw [hnext] at hqn
        have Hn := Lib.hid hnext
        have hqn' : (q : Int) * 10 + ((s[i].toNat : Int) - 48) ≤ 99999999999 := by omega
        have hA : decide ((48 : Int) ≤ s[i].toNat) = true := decide_eq_true (by omega)
        clear hi hd hnext hst hlt hct hqn
        go_wp2
        go_round
        case rel => exact ⟨i + 1, k + 1, q * 10 + (s[i].toNat - 48), by omega, by omega, by omega, by go_num, by go_num, by go_num, by omega, Hn⟩
        case measure => simp [intOf]; omega
      · have hst : digStep (q, k) s[i] = (q, k) := by simp [digStep, isDg]; omega
        rw [hst] at hnext
        have Hn := Lib.hid hnext
        clear hnext hst hlt hct hqn
        by_cases hd1 : 48 ≤ s[i].toNat
        · have hA : decide ((48 : Int) ≤ s[i].toNat) = true := decide_eq_true (by omega)
          have hB : decide ((s[i].toNat : Int) ≤ 57) = false := decide_eq_false (by omega)
          clear hi hd
          go_wp2
          go_round
          case rel => exact ⟨i + 1, k, q, by omega, by omega, by omega, by go_num, rfl, rfl, by omega, Hn⟩
          case measure => simp [intOf]; omega
        · have hA : decide ((48 : Int) ≤ s[i].toNat) = false := decide_eq_false (by omega)
          clear hi hd
          go_wp2
          go_round
          case rel => exact ⟨i + 1, k, q, by omega, by omega, by omega, by go_num, rfl, rfl, by omega, Hn⟩
          case measure => simp [intOf]; omega
    · have hd11 : digF (s.data.toList.take 11) = (q, k) := by
        rw [← Hd.out]
        by_cases h : i = 11
        · rw [h]
        · rw [List.take_of_length_le (show s.data.toList.length ≤ i by simp; omega), List.take_of_length_le (show s.data.toList.length ≤ 11 by simp; omega)]
      have Hd11 := Lib.hid hd11
      have hge : ¬ ((i : Int) < 11 ∧ (i : Int) < s.size) := by omega
      have Hge := Lib.hid hge
      clear hd11 hge hi
      rcases Nat.eq_zero_or_pos s.size with h0 | hpos
      · have hl0 : s.data.toList = [] := List.eq_nil_of_length_eq_zero (by simpa using h0)
        have hd0 := Hd11.out
        rw [hl0] at hd0
        have hq0 : q = 0 := by simpa [digF] using (congrArg Prod.fst hd0).symm
        have hk0 : k = 0 := by simpa [digF] using (congrArg Prod.snd hd0).symm
        have hi0 : i = 0 := by omega
        subst hq0 hk0 hi0
        have hr : pI s.data.toList = none := by rw [hl0]; exact pI_nil
        have hge1 : s.size ≤ 0 := by omega
        have hS : decide ((10 : Int) < (s.size : Int)) = false := decide_eq_false (by omega)
        have hE : (!((str (Lib.itoa 0)).toList == s.toList)) = true := by rw [Lib.toList_data, Lib.toList_data, hl0]; simp [str, Lib.itoa, Lib.decDigits_one]
        have Hr := Lib.hid hr
        clear hr hl0 hd0 h0
        go_wp2_with (go_at_call 18; refine (specFI 0 (by decide) (by decide) _).mono ?_; rintro e w1 ⟨rfl, hb1⟩)
        go_ret2
        exact ⟨by rw [Hr.out]; rfl, hb1⟩
      · have hP : decide ((0 : Int) < (s.size : Int)) = true := decide_eq_true (by omega)
        have hP' : decide (0 < s.size) = true := decide_eq_true (by omega)
        have hby0 := s[0].toNat_lt
        have hhead : s.data.toList.head? = some s[0] := by
          rw [List.head?_eq_getElem?, List.getElem?_eq_getElem (by simpa using hpos)]; rfl
        have Hh := Lib.hid hhead
        clear hhead
        by_cases h8 : i < s.size
        · have hge1 : 11 ≤ i := by have := Hge.out; omega
          by_cases hm : s[0] = 45
          · have hM : ((s[0].toNat : Int) == 45) = true := by rw [hm]; rfl
            have Hm := Lib.hid hm
            clear hm
            have hcand : cand s.data.toList = -(q : Int) := by
              unfold cand; rw [Hd11.out, Hh.out, Hm.out, if_pos rfl]
            have Hc := Lib.hid hcand
            clear hcand
            by_cases hk9 : k ≤ 9
            · have hK : decide ((9 : Int) < (k : Int)) = false := decide_eq_false (by omega)
              have hK' : decide (9 < k) = false := decide_eq_false (by omega)
              by_cases hs10 : s.size ≤ 10
              · have hS : decide ((10 : Int) < (s.size : Int)) = false := decide_eq_false (by omega)
                have hS' : decide (10 < s.size) = false := decide_eq_false (by omega)
                have hcb : -9223372036854775808 ≤ -(q : Int) ∧ -(q : Int) ≤ 9223372036854775807 := by have := cand_wide s.data.toList; rw [Hc.out] at this; omega
                have Hcb := Lib.hid hcb
                clear hcb
                by_cases hF : Lib.itoa (-(q : Int)) = s.data.toList
                · have hE : (!((str (Lib.itoa (-(q : Int)))).toList == s.toList)) = false := by rw [Lib.toList_data, Lib.toList_data, hF]; simp [str]
                  have hr : pI s.data.toList = some (-(q : Int)) := by unfold pI; rw [Hc.out, Hd11.out, if_pos ⟨hk9, by simpa using hs10, hF⟩]
                  have Hr := Lib.hid hr
                  clear hr hF hk9 hs10
                  go_wp2_with (go_at_call 18; refine (specFI _ Hcb.out.1 Hcb.out.2 _).mono ?_; rintro e w1 ⟨rfl, hb1⟩)
                  go_ret2
                  exact ⟨by rw [Hr.out]; rfl, hb1⟩
                · have hE : (!((str (Lib.itoa (-(q : Int)))).toList == s.toList)) = true := by rw [Lib.toList_data, Lib.toList_data]; simpa [str] using hF
                  have hr : pI s.data.toList = none := by unfold pI; rw [Hc.out, Hd11.out, if_neg (fun h => hF h.2.2)]
                  have Hr := Lib.hid hr
                  clear hr hF hk9 hs10
                  go_wp2_with (go_at_call 18; refine (specFI _ Hcb.out.1 Hcb.out.2 _).mono ?_; rintro e w1 ⟨rfl, hb1⟩)
                  go_ret2
                  exact ⟨by rw [Hr.out]; rfl, hb1⟩
              · have hS : decide ((10 : Int) < (s.size : Int)) = true := decide_eq_true (by omega)
                have hS' : decide (10 < s.size) = true := decide_eq_true (by omega)
                have hr : pI s.data.toList = none := by unfold pI; rw [if_neg (fun h => hs10 (by simpa using h.2.1))]
                have Hr := Lib.hid hr
                clear hr hk9 hs10
                go_wp2
                go_ret2
                exact ⟨by rw [Hr.out]; rfl, Below.refl _ _⟩
            · have hK : decide ((9 : Int) < (k : Int)) = true := decide_eq_true (by omega)
              have hK' : decide (9 < k) = true := decide_eq_true (by omega)
              have hr : pI s.data.toList = none := by unfold pI; rw [Hd11.out, if_neg (fun h => hk9 h.1)]
              have Hr := Lib.hid hr
              clear hr hk9
              go_wp2
              go_ret2
              exact ⟨by rw [Hr.out]; rfl, Below.refl _ _⟩
          · have hM : ((s[0].toNat : Int) == 45) = false := by
              rw [beq_eq_false_iff_ne]
              exact fun h => hm (UInt8.toNat.inj (by show s[0].toNat = 45; omega))
            have Hm := Lib.hid hm
            clear hm
            have hcand : cand s.data.toList = (q : Int) := by
              unfold cand; rw [Hd11.out, Hh.out, if_neg (fun h => Hm.out (Option.some.inj h))]
            have Hc := Lib.hid hcand
            clear hcand
            by_cases hk9 : k ≤ 9
            · have hK : decide ((9 : Int) < (k : Int)) = false := decide_eq_false (by omega)
              have hK' : decide (9 < k) = false := decide_eq_false (by omega)
              by_cases hs10 : s.size ≤ 10
              · have hS : decide ((10 : Int) < (s.size : Int)) = false := decide_eq_false (by omega)
                have hS' : decide (10 < s.size) = false := decide_eq_false (by omega)
                have hcb : -9223372036854775808 ≤ (q : Int) ∧ (q : Int) ≤ 9223372036854775807 := by have := cand_wide s.data.toList; rw [Hc.out] at this; omega
                have Hcb := Lib.hid hcb
                clear hcb
                by_cases hF : Lib.itoa ((q : Int)) = s.data.toList
                · have hE : (!((str (Lib.itoa ((q : Int)))).toList == s.toList)) = false := by rw [Lib.toList_data, Lib.toList_data, hF]; simp [str]
                  have hr : pI s.data.toList = some ((q : Int)) := by unfold pI; rw [Hc.out, Hd11.out, if_pos ⟨hk9, by simpa using hs10, hF⟩]
                  have Hr := Lib.hid hr
                  clear hr hF hk9 hs10
                  go_wp2_with (go_at_call 18; refine (specFI _ Hcb.out.1 Hcb.out.2 _).mono ?_; rintro e w1 ⟨rfl, hb1⟩)
                  go_ret2
                  exact ⟨by rw [Hr.out]; rfl, hb1⟩
                · have hE : (!((str (Lib.itoa ((q : Int)))).toList == s.toList)) = true := by rw [Lib.toList_data, Lib.toList_data]; simpa [str] using hF
                  have hr : pI s.data.toList = none := by unfold pI; rw [Hc.out, Hd11.out, if_neg (fun h => hF h.2.2)]
                  have Hr := Lib.hid hr
                  clear hr hF hk9 hs10
                  go_wp2_with (go_at_call 18; refine (specFI _ Hcb.out.1 Hcb.out.2 _).mono ?_; rintro e w1 ⟨rfl, hb1⟩)
                  go_ret2
                  exact ⟨by rw [Hr.out]; rfl, hb1⟩
              · have hS : decide ((10 : Int) < (s.size : Int)) = true := decide_eq_true (by omega)
                have hS' : decide (10 < s.size) = true := decide_eq_true (by omega)
                have hr : pI s.data.toList = none := by unfold pI; rw [if_neg (fun h => hs10 (by simpa using h.2.1))]
                have Hr := Lib.hid hr
                clear hr hk9 hs10
                go_wp2
                go_ret2
                exact ⟨by rw [Hr.out]; rfl, Below.refl _ _⟩
            · have hK : decide ((9 : Int) < (k : Int)) = true := decide_eq_true (by omega)
              have hK' : decide (9 < k) = true := decide_eq_true (by omega)
              have hr : pI s.data.toList = none := by unfold pI; rw [Hd11.out, if_neg (fun h => hk9 h.1)]
              have Hr := Lib.hid hr
              clear hr hk9
              go_wp2
              go_ret2
              exact ⟨by rw [Hr.out]; rfl, Below.refl _ _⟩
        · have hge1 : s.size ≤ i := by omega
          by_cases hm : s[0] = 45
          · have hM : ((s[0].toNat : Int) == 45) = true := by rw [hm]; rfl
            have Hm := Lib.hid hm
            clear hm
            have hcand : cand s.data.toList = -(q : Int) := by
              unfold cand; rw [Hd11.out, Hh.out, Hm.out, if_pos rfl]
            have Hc := Lib.hid hcand
            clear hcand
            by_cases hk9 : k ≤ 9
            · have hK : decide ((9 : Int) < (k : Int)) = false := decide_eq_false (by omega)
              have hK' : decide (9 < k) = false := decide_eq_false (by omega)
              by_cases hs10 : s.size ≤ 10
              · have hS : decide ((10 : Int) < (s.size : Int)) = false := decide_eq_false (by omega)
                have hS' : decide (10 < s.size) = false := decide_eq_false (by omega)
                have hcb : -9223372036854775808 ≤ -(q : Int) ∧ -(q : Int) ≤ 9223372036854775807 := by have := cand_wide s.data.toList; rw [Hc.out] at this; omega
                have Hcb := Lib.hid hcb
                clear hcb
                by_cases hF : Lib.itoa (-(q : Int)) = s.data.toList
                · have hE : (!((str (Lib.itoa (-(q : Int)))).toList == s.toList)) = false := by rw [Lib.toList_data, Lib.toList_data, hF]; simp [str]
                  have hr : pI s.data.toList = some (-(q : Int)) := by unfold pI; rw [Hc.out, Hd11.out, if_pos ⟨hk9, by simpa using hs10, hF⟩]
                  have Hr := Lib.hid hr
                  clear hr hF hk9 hs10
                  go_wp2_with (go_at_call 18; refine (specFI _ Hcb.out.1 Hcb.out.2 _).mono ?_; rintro e w1 ⟨rfl, hb1⟩)
                  go_ret2
                  exact ⟨by rw [Hr.out]; rfl, hb1⟩
                · have hE : (!((str (Lib.itoa (-(q : Int)))).toList == s.toList)) = true := by rw [Lib.toList_data, Lib.toList_data]; simpa [str] using hF
                  have hr : pI s.data.toList = none := by unfold pI; rw [Hc.out, Hd11.out, if_neg (fun h => hF h.2.2)]
                  have Hr := Lib.hid hr
                  clear hr hF hk9 hs10
                  go_wp2_with (go_at_call 18; refine (specFI _ Hcb.out.1 Hcb.out.2 _).mono ?_; rintro e w1 ⟨rfl, hb1⟩)
                  go_ret2
                  exact ⟨by rw [Hr.out]; rfl, hb1⟩
              · have hS : decide ((10 : Int) < (s.size : Int)) = true := decide_eq_true (by omega)
                have hS' : decide (10 < s.size) = true := decide_eq_true (by omega)
                have hr : pI s.data.toList = none := by unfold pI; rw [if_neg (fun h => hs10 (by simpa using h.2.1))]
                have Hr := Lib.hid hr
                clear hr hk9 hs10
                go_wp2
                go_ret2
                exact ⟨by rw [Hr.out]; rfl, Below.refl _ _⟩
            · have hK : decide ((9 : Int) < (k : Int)) = true := decide_eq_true (by omega)
              have hK' : decide (9 < k) = true := decide_eq_true (by omega)
              have hr : pI s.data.toList = none := by unfold pI; rw [Hd11.out, if_neg (fun h => hk9 h.1)]
              have Hr := Lib.hid hr
              clear hr hk9
              go_wp2
              go_ret2
              exact ⟨by rw [Hr.out]; rfl, Below.refl _ _⟩
          · have hM : ((s[0].toNat : Int) == 45) = false := by
              rw [beq_eq_false_iff_ne]
              exact fun h => hm (UInt8.toNat.inj (by show s[0].toNat = 45; omega))
            have Hm := Lib.hid hm
            clear hm
            have hcand : cand s.data.toList = (q : Int) := by
              unfold cand; rw [Hd11.out, Hh.out, if_neg (fun h => Hm.out (Option.some.inj h))]
            have Hc := Lib.hid hcand
            clear hcand
            by_cases hk9 : k ≤ 9
            · have hK : decide ((9 : Int) < (k : Int)) = false := decide_eq_false (by omega)
              have hK' : decide (9 < k) = false := decide_eq_false (by omega)
              by_cases hs10 : s.size ≤ 10
              · have hS : decide ((10 : Int) < (s.size : Int)) = false := decide_eq_false (by omega)
                have hS' : decide (10 < s.size) = false := decide_eq_false (by omega)
                have hcb : -9223372036854775808 ≤ (q : Int) ∧ (q : Int) ≤ 9223372036854775807 := by have := cand_wide s.data.toList; rw [Hc.out] at this; omega
                have Hcb := Lib.hid hcb
                clear hcb
                by_cases hF : Lib.itoa ((q : Int)) = s.data.toList
                · have hE : (!((str (Lib.itoa ((q : Int)))).toList == s.toList)) = false := by rw [Lib.toList_data, Lib.toList_data, hF]; simp [str]
                  have hr : pI s.data.toList = some ((q : Int)) := by unfold pI; rw [Hc.out, Hd11.out, if_pos ⟨hk9, by simpa using hs10, hF⟩]
                  have Hr := Lib.hid hr
                  clear hr hF hk9 hs10
                  go_wp2_with (go_at_call 18; refine (specFI _ Hcb.out.1 Hcb.out.2 _).mono ?_; rintro e w1 ⟨rfl, hb1⟩)
                  go_ret2
                  exact ⟨by rw [Hr.out]; rfl, hb1⟩
                · have hE : (!((str (Lib.itoa ((q : Int)))).toList == s.toList)) = true := by rw [Lib.toList_data, Lib.toList_data]; simpa [str] using hF
                  have hr : pI s.data.toList = none := by unfold pI; rw [Hc.out, Hd11.out, if_neg (fun h => hF h.2.2)]
                  have Hr := Lib.hid hr
                  clear hr hF hk9 hs10
                  go_wp2_with (go_at_call 18; refine (specFI _ Hcb.out.1 Hcb.out.2 _).mono ?_; rintro e w1 ⟨rfl, hb1⟩)
                  go_ret2
                  exact ⟨by rw [Hr.out]; rfl, hb1⟩
              · have hS : decide ((10 : Int) < (s.size : Int)) = true := decide_eq_true (by omega)
                have hS' : decide (10 < s.size) = true := decide_eq_true (by omega)
                have hr : pI s.data.toList = none := by unfold pI; rw [if_neg (fun h => hs10 (by simpa using h.2.1))]
                have Hr := Lib.hid hr
                clear hr hk9 hs10
                go_wp2
                go_ret2
                exact ⟨by rw [Hr.out]; rfl, Below.refl _ _⟩
            · have hK : decide ((9 : Int) < (k : Int)) = true := decide_eq_true (by omega)
              have hK' : decide (9 < k) = true := decide_eq_true (by omega)
              have hr : pI s.data.toList = none := by unfold pI; rw [Hd11.out, if_neg (fun h => hk9 h.1)]
              have Hr := Lib.hid hr
              clear hr hk9
              go_wp2
              go_ret2
              exact ⟨by rw [Hr.out]; rfl, Below.refl _ _⟩
end Go.Proofs.YtdieggjnnlldeaaDoor
