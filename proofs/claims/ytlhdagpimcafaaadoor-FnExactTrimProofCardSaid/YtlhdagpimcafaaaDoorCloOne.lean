/- CloOne: Grw CloP CloI. -/
import Derived.Lib.TrailingZeros
import Derived.Test.YtlhdagpimcafaaaDoorQvA
import Derived.Test.YtlhdagpimcafaaaDoorBits
import Derived.Test.YtlhdagpimcafaaaDoorAbGen
/- Sets of bits that grow by rules: the least closed set, by rounds and by steps. -/
namespace Go.Proofs.YtlhdagpimcafaaaDoor.Ab
set_option linter.unusedSimpArgs false
set_option linter.unusedVariables false
set_option maxRecDepth 100000
/-- Each number in a is in b. -/
def sub (a b : Nat) : Prop := a ||| b = b
theorem sub_iff {a b : Nat} : sub a b ↔ ∀ i, a.testBit i = true → b.testBit i = true := by
  unfold sub
  constructor
  · intro h i hi
    rw [← h, Nat.testBit_or, hi]
    rfl
  · intro h
    apply Nat.eq_of_testBit_eq
    intro i
    rw [Nat.testBit_or]
    cases e : a.testBit i with
    | false => simp
    | true => rw [h i e]; rfl
theorem sub_refl (a : Nat) : sub a a := sub_iff.2 fun _ h => h
theorem sub_trans {a b c : Nat} (h : sub a b) (h' : sub b c) : sub a c := sub_iff.2 fun i hi => sub_iff.1 h' i (sub_iff.1 h i hi)
theorem sub_anti {a b : Nat} (h : sub a b) (h' : sub b a) : a = b := by
  apply Nat.eq_of_testBit_eq
  intro i
  rw [Bool.eq_iff_iff]
  exact ⟨sub_iff.1 h i, sub_iff.1 h' i⟩
theorem sub_l (a b : Nat) : sub a (a ||| b) := sub_iff.2 fun i hi => by rw [Nat.testBit_or, hi]; rfl
theorem sub_r (a b : Nat) : sub b (a ||| b) := sub_iff.2 fun i hi => by rw [Nat.testBit_or, hi]; simp
theorem or_sub {a b c : Nat} (h : sub a c) (h' : sub b c) : sub (a ||| b) c := sub_iff.2 fun i hi => by
  rw [Nat.testBit_or, Bool.or_eq_true] at hi
  exact hi.elim (sub_iff.1 h i) (sub_iff.1 h' i)
theorem sub_zero (b : Nat) : sub 0 b := sub_iff.2 fun i hi => by simp at hi
theorem le_or (a b : Nat) : a ≤ a ||| b := Nat.left_le_or
/-- Where c holds of the set, add is added. -/
structure Rule where
  c : Nat → Bool
  add : Nat
def Rule.mono (r : Rule) : Prop := ∀ S T, sub S T → r.c S = true → r.c T = true
def Rule.app (r : Rule) (S : Nat) : Nat := if r.c S = true then S ||| r.add else S
/-- One rule after the other. -/
def pass (rs : List Rule) (S : Nat) : Nat := rs.foldl (fun S r => r.app S) S
/-- What all rules add at once. -/
def par (rs : List Rule) (S : Nat) : Nat := rs.foldl (fun A r => if r.c S = true then A ||| r.add else A) 0
def rounds (rs : List Rule) : Nat → Nat → Nat
  | 0, S => S
  | n + 1, S => pass rs (rounds rs n S)
def closed (rs : List Rule) (S : Nat) : Prop := ∀ r, r ∈ rs → r.c S = true → sub r.add S
def monos (rs : List Rule) : Prop := ∀ r, r ∈ rs → r.mono
inductive Grows (f : Nat → Nat) : Nat → Nat → Prop
  | stop {s : Nat} : s ||| f s = s → Grows f s s
  | step {s R : Nat} : s ||| f s ≠ s → Grows f (s ||| f s) R → Grows f s R
theorem grows_ex {f : Nat → Nat} {M : Nat} (hM : ∀ a b, a < M → b < M → a ||| b < M) (hf : ∀ s, s < M → f s < M) : ∀ (n s : Nat), M - s ≤ n → s < M → ∃ R, Grows f s R
  | 0, s, hn, hs => by omega
  | n + 1, s, hn, hs => by
    by_cases h : s ||| f s = s
    · exact ⟨s, .stop h⟩
    · have h1 := le_or s (f s)
      obtain ⟨R, hR⟩ := grows_ex hM hf n (s ||| f s) (by omega) (hM _ _ hs (hf s hs))
      exact ⟨R, .step h hR⟩
theorem Grows.up {f : Nat → Nat} {s R : Nat} (h : Grows f s R) : sub s R := by
  induction h with
  | stop h => exact sub_refl _
  | step h _ ih => exact sub_trans (sub_l _ _) ih
theorem Grows.fix {f : Nat → Nat} {s R : Nat} (h : Grows f s R) : sub (f R) R := by
  induction h with
  | stop h => unfold sub; rw [Nat.or_comm]; exact h
  | step h _ ih => exact ih
theorem Grows.least {f : Nat → Nat} {s R T : Nat} (h : Grows f s R) (hT : ∀ S, sub S T → sub (f S) T) : sub s T → sub R T := by
  induction h with
  | stop h => exact fun h => h
  | step h _ ih => exact fun h => ih (or_sub h (hT _ h))
theorem Grows.lt {f : Nat → Nat} {M s R : Nat} (hM : ∀ a b, a < M → b < M → a ||| b < M) (hf : ∀ s, s < M → f s < M) (h : Grows f s R) : s < M → R < M := by
  induction h with
  | stop h => exact fun h => h
  | step h _ ih => exact fun h => ih (hM _ _ h (hf _ h))
theorem par_from (rs : List Rule) (S A T : Nat) : sub (rs.foldl (fun A r => if r.c S = true then A ||| r.add else A) A) T ↔ (sub A T ∧ ∀ r, r ∈ rs → r.c S = true → sub r.add T) := by
  induction rs generalizing A with
  | nil => simp
  | cons r rs ih =>
    rw [List.foldl_cons, ih]
    constructor
    · rintro ⟨h1, h2⟩
      split at h1
      · rename_i hc
        refine ⟨sub_trans (sub_l _ _) h1, fun q hq hqc => ?_⟩
        rcases List.mem_cons.1 hq with rfl | hq
        · exact sub_trans (sub_r _ _) h1
        · exact h2 q hq hqc
      · rename_i hc
        refine ⟨h1, fun q hq hqc => ?_⟩
        rcases List.mem_cons.1 hq with rfl | hq
        · exact absurd hqc hc
        · exact h2 q hq hqc
    · rintro ⟨h1, h2⟩
      refine ⟨?_, fun q hq => h2 q (List.mem_cons_of_mem _ hq)⟩
      split
      · rename_i hc
        exact or_sub h1 (h2 r (List.mem_cons_self ..) hc)
      · exact h1
theorem par_sub {rs : List Rule} {S T : Nat} : sub (par rs S) T ↔ ∀ r, r ∈ rs → r.c S = true → sub r.add T := by
  unfold par
  rw [par_from]
  exact ⟨fun h => h.2, fun h => ⟨sub_zero _, h⟩⟩
theorem app_up (r : Rule) (S : Nat) : sub S (r.app S) := by
  unfold Rule.app
  split
  · exact sub_l _ _
  · exact sub_refl _
theorem pass_up (rs : List Rule) (S : Nat) : sub S (pass rs S) := by
  unfold pass
  induction rs generalizing S with
  | nil => exact sub_refl _
  | cons r rs ih => exact sub_trans (app_up r S) (ih _)
theorem pass_in {rs : List Rule} (hm : monos rs) {S T : Nat} (hc : closed rs T) (h : sub S T) : sub (pass rs S) T := by
  unfold pass
  induction rs generalizing S with
  | nil => exact h
  | cons r rs ih =>
    refine ih (fun q hq => hm q (List.mem_cons_of_mem _ hq)) (fun q hq => hc q (List.mem_cons_of_mem _ hq)) ?_
    show sub (if r.c S = true then S ||| r.add else S) T
    split
    · rename_i hr
      exact or_sub h (hc r (List.mem_cons_self ..) (hm r (List.mem_cons_self ..) _ _ h hr))
    · exact h
theorem pass_add {rs : List Rule} (hm : monos rs) {S : Nat} {r : Rule} (hr : r ∈ rs) (hc : r.c S = true) : sub r.add (pass rs S) := by
  unfold pass
  induction rs generalizing S with
  | nil => cases hr
  | cons q rs ih =>
    rw [List.foldl_cons]
    rcases List.mem_cons.1 hr with rfl | hr
    · have h1 := pass_up rs (r.app S)
      refine sub_trans ?_ h1
      unfold Rule.app
      rw [if_pos hc]
      exact sub_r _ _
    · exact ih (fun q hq => hm q (List.mem_cons_of_mem _ hq)) hr (hm r (List.mem_cons_of_mem _ hr) _ _ (app_up q S) hc)
/-- How many rules have something to add yet. -/
def cnt (rs : List Rule) (S : Nat) : Nat := rs.countP fun r => decide (¬ (r.add ||| S = S))
theorem cnt_le (rs : List Rule) {S T : Nat} (h : sub S T) : cnt rs T ≤ cnt rs S := by
  unfold cnt
  apply List.countP_mono_left
  intro r _ h1
  rw [decide_eq_true_eq] at h1 ⊢
  exact fun h2 => h1 (sub_trans (a := r.add) h2 h)
theorem cnt_lt {rs : List Rule} {S T : Nat} (h : sub S T) {r : Rule} (hr : r ∈ rs) (h1 : ¬ sub r.add S) (h2 : sub r.add T) : cnt rs T < cnt rs S := by
  induction rs with
  | nil => cases hr
  | cons q rs ih =>
    have e : ∀ X, cnt (q :: rs) X = cnt rs X + (if decide (¬ (q.add ||| X = X)) = true then 1 else 0) := fun X => List.countP_cons
    rw [e, e]
    rcases List.mem_cons.1 hr with rfl | hr
    · have h3 := cnt_le rs h
      rw [if_neg (by rw [decide_eq_true_eq]; exact fun hn => hn h2), if_pos (by rw [decide_eq_true_eq]; exact h1)]
      omega
    · have h3 := ih hr
      by_cases hq : q.add ||| S = S
      · have hq2 : q.add ||| T = T := sub_trans (a := q.add) hq h
        rw [if_neg (by rw [decide_eq_true_eq]; exact fun hn => hn hq2), if_neg (by rw [decide_eq_true_eq]; exact fun hn => hn hq)]
        exact h3
      · rw [if_pos (c := decide (¬ (q.add ||| S = S)) = true) (by rw [decide_eq_true_eq]; exact hq)]
        split <;> omega
theorem closed_of_zero {rs : List Rule} {S : Nat} (h : cnt rs S = 0) : closed rs S := by
  intro r hr _
  unfold cnt at h
  rw [List.countP_eq_zero] at h
  have := h r hr
  rw [decide_eq_true_eq] at this
  exact Classical.not_not.1 this
theorem rounds_up (rs : List Rule) (n S : Nat) : sub S (rounds rs n S) := by
  induction n with
  | zero => exact sub_refl _
  | succ n ih => exact sub_trans ih (pass_up _ _)
theorem rounds_in {rs : List Rule} (hm : monos rs) {S T : Nat} (hc : closed rs T) (h : sub S T) (n : Nat) : sub (rounds rs n S) T := by
  induction n with
  | zero => exact h
  | succ n ih => exact pass_in hm hc ih
theorem pass_closed {rs : List Rule} (hm : monos rs) {S : Nat} (hc : closed rs S) : pass rs S = S := sub_anti (pass_in hm hc (sub_refl _)) (pass_up _ _)
theorem rounds_closed {rs : List Rule} (hm : monos rs) (S n : Nat) : closed rs (rounds rs n S) ∨ cnt rs (rounds rs n S) + n ≤ cnt rs S := by
  induction n with
  | zero => exact .inr (Nat.le_refl _)
  | succ n ih =>
    by_cases hc : closed rs (rounds rs n S)
    · left
      rw [rounds, pass_closed hm hc]
      exact hc
    · right
      rcases ih with h | h
      · exact absurd h hc
      · obtain ⟨r, hr, h1, h2⟩ : ∃ r, r ∈ rs ∧ r.c (rounds rs n S) = true ∧ ¬ sub r.add (rounds rs n S) := Classical.byContradiction fun hn => hc fun r hr h1 => Classical.byContradiction fun h2 => hn ⟨r, hr, h1, h2⟩
        have := cnt_lt (pass_up rs (rounds rs n S)) hr h2 (pass_add hm hr h1)
        rw [rounds]
        omega
theorem rounds_done {rs : List Rule} (hm : monos rs) {S n : Nat} (hn : rs.length ≤ n) : closed rs (rounds rs n S) := by
  rcases rounds_closed hm S n with h | h
  · exact h
  · have : cnt rs S ≤ rs.length := List.countP_le_length
    exact closed_of_zero (by omega)
/-- What grows step by step is what the rounds give. -/
theorem grows_eq {rs : List Rule} (hm : monos rs) {s R n : Nat} {f : Nat → Nat} (hf : ∀ S, f S = par rs S) (hn : rs.length ≤ n) (h : Grows f s R) : R = rounds rs n s := by
  apply sub_anti
  · refine h.least (fun S hS => ?_) (rounds_up rs n s)
    rw [hf, par_sub]
    exact fun r hr hc => rounds_done hm hn r hr (hm r hr _ _ hS hc)
  · refine rounds_in hm ?_ h.up n
    have := h.fix
    rw [hf, par_sub] at this
    exact this
theorem par_lt {M : Nat} (hM : ∀ a b, a < M → b < M → a ||| b < M) (h0 : 0 < M) {rs : List Rule} (h : ∀ r, r ∈ rs → r.add < M) (S : Nat) : par rs S < M := by
  unfold par
  have : ∀ A, A < M → rs.foldl (fun A r => if r.c S = true then A ||| r.add else A) A < M := by
    induction rs with
    | nil => exact fun A h => h
    | cons r rs ih =>
      intro A hA
      rw [List.foldl_cons]
      refine ih (fun q hq => h q (List.mem_cons_of_mem _ hq)) _ ?_
      split
      · exact hM _ _ hA (h r (List.mem_cons_self ..))
      · exact hA
  exact this 0 h0
theorem rounds_lt {M : Nat} (hM : ∀ a b, a < M → b < M → a ||| b < M) {rs : List Rule} (h : ∀ r, r ∈ rs → r.add < M) {S : Nat} (hS : S < M) (n : Nat) : rounds rs n S < M := by
  induction n with
  | zero => exact hS
  | succ n ih =>
    rw [rounds]
    generalize rounds rs n S = A at ih
    unfold pass
    clear hS
    induction rs generalizing A with
    | nil => exact ih
    | cons r rs ih2 =>
      rw [List.foldl_cons]
      refine ih2 (fun q hq => h q (List.mem_cons_of_mem _ hq)) _ ?_
      unfold Rule.app
      split
      · exact hM _ _ ih (h r (List.mem_cons_self ..))
      · exact ih
theorem rounds_grows {rs : List Rule} (hm : monos rs) {M s n : Nat} {f : Nat → Nat} (hM : ∀ a b, a < M → b < M → a ||| b < M) (hf : ∀ S, f S = par rs S) (ha : ∀ r, r ∈ rs → r.add < M) (hs : s < M) (hn : rs.length ≤ n) : Grows f s (rounds rs n s) := by
  obtain ⟨R, hR⟩ := grows_ex (f := f) hM (fun S _ => by rw [hf]; exact par_lt hM (by omega) ha S) _ s (Nat.le_refl _) hs
  rw [← grows_eq hm hf hn hR]
  exact hR
theorem par_snoc (rs : List Rule) (r : Rule) (S : Nat) : par (rs ++ [r]) S = if r.c S = true then par rs S ||| r.add else par rs S := by
  unfold par
  rw [List.foldl_append]
  rfl
theorem pass_snoc (rs : List Rule) (r : Rule) (S : Nat) : pass (rs ++ [r]) S = r.app (pass rs S) := by
  unfold pass
  rw [List.foldl_append]
  rfl
/-- The bits that p says, of the first n. -/
def bitsP : Nat → (Nat → Bool) → Nat
  | 0, _ => 0
  | n + 1, p => bitsP n p ||| (if p n = true then 2 ^ n else 0)
theorem bitsP_test (n : Nat) (p : Nat → Bool) (i : Nat) : (bitsP n p).testBit i = (decide (i < n) && p i) := by
  induction n with
  | zero => simp [bitsP]
  | succ n ih =>
    rw [bitsP, Nat.testBit_or, ih]
    by_cases h : i = n
    · subst h
      split
      · rename_i h; simp [h]
      · rename_i h; simp [h]
    · have h1 : (if p n = true then 2 ^ n else 0).testBit i = false := by
        split
        · rw [Nat.testBit_two_pow]; simp; omega
        · simp
      rw [h1, Bool.or_false]
      have : (i < n + 1) ↔ (i < n) := by omega
      simp [this]
theorem bitsP_lt (n : Nat) (p : Nat → Bool) : bitsP n p < 2 ^ n := by
  induction n with
  | zero => simp [bitsP]
  | succ n ih =>
    rw [bitsP]
    refine Nat.or_lt_two_pow (Nat.lt_of_lt_of_le ih (Nat.pow_le_pow_right (by omega) (by omega))) ?_
    split
    · exact Nat.pow_lt_pow_right (by omega) (by omega)
    · exact Nat.two_pow_pos _
/-- The numbers in a set of bits, as they ascend. -/
def elemsN (n b : Nat) : List Int := ((List.range n).filter b.testBit).map fun (v : Nat) => (v : Int)
theorem filter_first {n k : Nat} {p q : Nat → Bool} (hk : k < n) (h0 : ∀ j, j < k → p j = false) (h1 : p k = true) (h2 : ∀ j, q j = (p j && decide (j ≠ k))) : (List.range n).filter p = k :: (List.range n).filter q := by
  have e : List.range n = List.range k ++ (k :: (List.range (n - k - 1)).map (k + 1 + ·)) := by
    have := List.range_add (n := k) (m := n - k)
    rw [show k + (n - k) = n by omega] at this
    rw [this, show n - k = (n - k - 1) + 1 by omega, List.range_succ_eq_map]
    simp only [List.map_cons, Nat.add_zero, List.map_map, Nat.add_sub_cancel]
    congr 2
    apply List.map_congr_left
    intro a _
    simp only [Function.comp]
    omega
  rw [e, List.filter_append, List.filter_append, List.filter_cons_of_pos h1, List.filter_cons_of_neg (by rw [h2]; simp)]
  have z : ∀ r : Nat → Bool, (∀ j, j < k → r j = false) → (List.range k).filter r = [] := fun r hr => by
    rw [List.filter_eq_nil_iff]
    intro j hj
    rw [hr j (List.mem_range.1 hj)]
    exact Bool.false_ne_true
  rw [z p h0, z q (fun j hj => by rw [h2, h0 j hj]; rfl), List.nil_append, List.nil_append]
  congr 1
  apply List.filter_congr
  intro j hj
  obtain ⟨a, _, rfl⟩ := List.mem_map.1 hj
  rw [h2]
  have : k + 1 + a ≠ k := by omega
  simp [this]
/-- The least number, and the set without it. -/
theorem low_bits {x : Nat} (h0 : x ≠ 0) (hx : x < 18446744073709551616) : Go.Lib.ctz 64 x < 64 ∧ x.testBit (Go.Lib.ctz 64 x) = true ∧ (∀ j, j < Go.Lib.ctz 64 x → x.testBit j = false) ∧ ∀ j, (x &&& (x - 1)).testBit j = (x.testBit j && decide (j ≠ Go.Lib.ctz 64 x)) := by
  unfold Go.Lib.ctz
  rw [if_neg h0]
  obtain ⟨m, hm, hk⟩ := Go.Lib.ctzFrom_spec 64 x (by omega) hx
  generalize Go.Lib.ctzFrom 64 x = k at *
  have e1 : ∀ j, (2 ^ k * (2 * m + 1)).testBit j = (decide (k ≤ j) && (2 * m + 1).testBit (j - k)) := fun j => by
    rw [Nat.mul_comm, Nat.testBit_mul_two_pow]
  refine ⟨hk, ?_, fun j hj => ?_, fun j => ?_⟩
  · rw [hm, e1]
    simp
  · rw [hm, e1]
    simp
    omega
  · have e2 : x - 1 = 2 ^ k * (2 * m) + (2 ^ k - 1) := by
      have := Nat.two_pow_pos k
      rw [hm, Nat.mul_add, Nat.mul_one]
      omega
    rw [Nat.testBit_and, e2, hm, e1, Nat.testBit_two_pow_mul_add _ (by have := Nat.two_pow_pos k; omega)]
    by_cases hj : j < k
    · have : ¬ k ≤ j := by omega
      simp [this]
    · rw [if_neg hj]
      by_cases hjk : j = k
      · subst hjk
        simp
      · obtain ⟨d, rfl⟩ : ∃ d, j = k + (d + 1) := ⟨j - k - 1, by omega⟩
        have h1 : k + (d + 1) - k = d + 1 := by omega
        rw [h1, Nat.testBit_succ, Nat.testBit_succ]
        have d1 : (2 * m + 1) / 2 = m := by omega
        have d2 : 2 * m / 2 = m := by omega
        rw [d1, d2]
        simp
theorem elems_step {n x : Nat} (h0 : x ≠ 0) (hx : x < 2 ^ n) (hn : n ≤ 64) : elemsN n x = (Go.Lib.ctz 64 x : Int) :: elemsN n (x &&& (x - 1)) := by
  have hx64 : x < 18446744073709551616 := Nat.lt_of_lt_of_le hx (Nat.pow_le_pow_right (n := 2) (by omega) hn)
  obtain ⟨h1, h2, h3, h4⟩ := low_bits h0 hx64
  have hk : Go.Lib.ctz 64 x < n := by
    apply Nat.lt_of_not_le
    intro hle
    have := Nat.testBit_lt_two_pow (Nat.lt_of_lt_of_le hx (Nat.pow_le_pow_right (n := 2) (by omega) hle))
    rw [h2] at this
    cases this
  unfold elemsN
  rw [filter_first hk h3 h2 h4]
  rfl
theorem elems_zero (n : Nat) : elemsN n 0 = [] := by
  unfold elemsN
  have : (List.range n).filter (Nat.testBit 0) = [] := by
    rw [List.filter_eq_nil_iff]
    intro j _
    simp
  rw [this]
  rfl
theorem elems_more {n m b : Nat} (hb : b < 2 ^ n) (h : n ≤ m) : elemsN m b = elemsN n b := by
  unfold elemsN
  obtain ⟨d, rfl⟩ : ∃ d, m = n + d := ⟨m - n, by omega⟩
  rw [List.range_add, List.filter_append]
  have : ((List.range d).map (n + ·)).filter b.testBit = [] := by
    rw [List.filter_eq_nil_iff]
    intro j hj
    obtain ⟨a, _, rfl⟩ := List.mem_map.1 hj
    rw [Nat.testBit_lt_two_pow (Nat.lt_of_lt_of_le hb (Nat.pow_le_pow_right (n := 2) (by omega) (by omega)))]
    exact Bool.false_ne_true
  rw [this, List.append_nil]
theorem elems_mem {n b : Nat} {x : Int} : x ∈ elemsN n b ↔ ∃ v : Nat, v < n ∧ b.testBit v = true ∧ x = (v : Int) := by
  unfold elemsN
  simp only [List.mem_map, List.mem_filter, List.mem_range]
  exact ⟨fun ⟨v, h, e⟩ => ⟨v, h.1, h.2, e.symm⟩, fun ⟨v, h1, h2, e⟩ => ⟨v, ⟨h1, h2⟩, e.symm⟩⟩
theorem elems_len (n b : Nat) : (elemsN n b).length ≤ n := by
  unfold elemsN
  rw [List.length_map]
  exact Nat.le_trans (List.length_filter_le _ _) (by rw [List.length_range]; exact Nat.le_refl _)
theorem elems_test {n b v : Nat} : (elemsN n b).contains (v : Int) = (decide (v < n) && b.testBit v) := by
  rw [Bool.eq_iff_iff, List.contains_iff_mem, elems_mem, Bool.and_eq_true, decide_eq_true_eq]
  constructor
  · rintro ⟨u, h1, h2, e⟩
    have : v = u := by omega
    subst this
    exact ⟨h1, h2⟩
  · rintro ⟨h1, h2⟩
    exact ⟨v, h1, h2, rfl⟩
end Go.Proofs.YtlhdagpimcafaaaDoor.Ab

/- Chapters 14 and 15: closures and attacks as sets of bits. -/
namespace Go.Proofs.YtlhdagpimcafaaaDoor.Ab
set_option linter.unusedSimpArgs false
set_option linter.unusedVariables false
set_option maxRecDepth 100000
theorem or16 (a b : Nat) (ha : a < 16) (hb : b < 16) : a ||| b < 16 := Nat.or_lt_two_pow (n := 4) ha hb
/-- The variables among these terms. -/
def vb (l : List Int) : Nat := bitsP 4 fun v => l.contains (v : Int)
theorem vb_lt (l : List Int) : vb l < 16 := bitsP_lt 4 _
theorem vb_test (l : List Int) (i : Nat) : (vb l).testBit i = (decide (i < 4) && l.contains (i : Int)) := bitsP_test 4 _ i
theorem elems_congr {n : Nat} {p : Nat → Bool} {b : Nat} (h : ∀ i, i < n → p i = b.testBit i) : ((List.range n).filter p).map (fun (v : Nat) => (v : Int)) = elemsN n b := by
  unfold elemsN
  congr 1
  apply List.filter_congr
  intro i hi
  exact h i (List.mem_range.1 hi)
theorem varsL_e (l : List Int) : varsL l = elemsN 4 (vb l) :=
  elems_congr (fun i hi => by rw [vb_test]; simp [hi])
theorem vb_elems {b : Nat} (hb : b < 16) : vb (elemsN 4 b) = b := by
  apply Nat.eq_of_testBit_eq
  intro i
  rw [vb_test, elems_test]
  by_cases h : i < 4
  · simp [h]
  · have := Nat.testBit_lt_two_pow (Nat.lt_of_lt_of_le (m := 2 ^ 4) hb (Nat.pow_le_pow_right (n := 2) (i := 4) (j := i) (by omega) (by omega)))
    simp [h, this]
theorem elems_inj {a b : Nat} (ha : a < 16) (hb : b < 16) (h : elemsN 4 a = elemsN 4 b) : a = b := by
  rw [← vb_elems ha, h, vb_elems hb]
/-- The variables of an atom's key. -/
def keyB (l : List Rel) (x : Atm) : Nat := if (inB x.rel 0 ((l.length : Int) - 1) && inB (keyAtV l x.rel) 0 (x.terms.length : Int)) = true then vb (x.terms.take (keyAtV l x.rel).toNat) else 0
theorem keyB_lt (l : List Rel) (x : Atm) : keyB l x < 16 := by
  unfold keyB
  split
  · exact vb_lt _
  · omega
theorem keyVarsL_e (l : List Rel) (x : Atm) : keyVarsL l x = elemsN 4 (keyB l x) := by
  unfold keyVarsL keyB
  split
  · exact varsL_e _
  · rw [elems_zero]
def both4 (a b : List Int) : List Int := ((List.range 4).filter fun (v : Nat) => a.contains (v : Int) || b.contains (v : Int)).map fun (v : Nat) => (v : Int)
theorem both4_e (a b : List Int) : both4 a b = elemsN 4 (vb a ||| vb b) :=
  elems_congr (fun i hi => by rw [Nat.testBit_or, vb_test, vb_test]; simp [hi])
/-- The numbers that p says, of the first k. -/
def pPart (p : Nat → Bool) (k : Nat) : List Int := ((List.range k).filter p).map fun (v : Nat) => (v : Int)
theorem pPart_succ (p : Nat → Bool) (k : Nat) : pPart p (k + 1) = pPart p k ++ (if p k = true then [(k : Int)] else []) := by
  unfold pPart
  rw [List.range_succ, List.filter_append, List.map_append]
  congr 1
  split
  · rename_i h; rw [List.filter_cons_of_pos h]; rfl
  · rename_i h; rw [List.filter_cons_of_neg h]; rfl
theorem pPart_len (p : Nat → Bool) (k : Nat) : (pPart p k).length ≤ k := by
  unfold pPart
  rw [List.length_map]
  exact Nat.le_trans (List.length_filter_le _ _) (by rw [List.length_range]; exact Nat.le_refl _)
instance subDec (a b : Nat) : Decidable (sub a b) := inferInstanceAs (Decidable (_ = _))
theorem has_elems {a b : Nat} (ha : a < 16) : ((elemsN 4 a).all fun x => (elemsN 4 b).contains x) = decide (sub a b) := by
  rw [Bool.eq_iff_iff, List.all_eq_true, decide_eq_true_eq, sub_iff]
  constructor
  · intro h i hi
    have h4 : i < 4 := by
      apply Nat.lt_of_not_le
      intro hle
      rw [Nat.testBit_lt_two_pow (Nat.lt_of_lt_of_le (m := 2 ^ 4) ha (Nat.pow_le_pow_right (n := 2) (by omega) hle))] at hi
      cases hi
    have := h (i : Int) (elems_mem.2 ⟨i, h4, hi, rfl⟩)
    rw [elems_test] at this
    simpa [h4] using this
  · intro h x hx
    obtain ⟨v, h1, h2, rfl⟩ := elems_mem.1 hx
    rw [elems_test]
    simp [h1, h v h2]
/-- What a closure depends on: of each atom the variables of its key, and all. -/
def shapeL (l : List Rel) (q : Qry) : List (Nat × Nat) := q.atoms.map fun a => (keyB l a, vb a.terms)
def rulesP (A : List (Nat × Nat)) (skip : Int) : List Rule := A.mapIdx fun i s => ⟨fun S => decide ((i : Int) ≠ skip) && decide (sub s.1 S), s.2⟩
theorem rulesP_mono (A : List (Nat × Nat)) (skip : Int) : monos (rulesP A skip) := by
  intro r hr
  obtain ⟨i, hi, rfl⟩ := List.mem_mapIdx.1 hr
  intro S T h h1
  simp only [Bool.and_eq_true, decide_eq_true_eq] at h1 ⊢
  exact ⟨h1.1, sub_trans h1.2 h⟩
theorem rulesP_len (A : List (Nat × Nat)) (skip : Int) : (rulesP A skip).length = A.length := List.length_mapIdx
theorem rulesP_at (A : List (Nat × Nat)) (skip : Int) (i : Nat) (h : i < A.length) : (rulesP A skip)[i]'(by rw [rulesP_len]; exact h) = ⟨fun S => decide ((i : Int) ≠ skip) && decide (sub A[i].1 S), A[i].2⟩ := by
  unfold rulesP
  rw [List.getElem_mapIdx]
def allIn (A : List (Nat × Nat)) (M : Nat) : Prop := ∀ s, s ∈ A → s.1 < M ∧ s.2 < M
theorem rulesP_lt {A : List (Nat × Nat)} {M : Nat} (h : allIn A M) (skip : Int) : ∀ r, r ∈ rulesP A skip → r.add < M := by
  intro r hr
  obtain ⟨i, hi, rfl⟩ := List.mem_mapIdx.1 hr
  exact (h _ (List.getElem_mem hi)).2
theorem shapeL_in (l : List Rel) (q : Qry) : allIn (shapeL l q) 16 := by
  intro s hs
  obtain ⟨a, _, rfl⟩ := List.mem_map.1 hs
  exact ⟨keyB_lt l a, vb_lt _⟩
/-- All that these variables determine by the atoms but one. -/
def closP (A : List (Nat × Nat)) (skip : Int) (S : Nat) : Nat := rounds (rulesP A skip) A.length S
theorem closP_lt {A : List (Nat × Nat)} (h : allIn A 16) (skip : Int) {S : Nat} (hS : S < 16) : closP A skip S < 16 := rounds_lt or16 (rulesP_lt h skip) hS _
theorem closP_grows {A : List (Nat × Nat)} (h : allIn A 16) (skip : Int) {S : Nat} (hS : S < 16) : Grows (par (rulesP A skip)) S (closP A skip S) :=
  rounds_grows (rulesP_mono A skip) or16 (fun _ => rfl) (rulesP_lt h skip) hS (by rw [rulesP_len]; exact Nat.le_refl _)
/-- The numbers of a set that are not in the other. -/
def wo (a b : Nat) : Nat := ndn a b
theorem wo_test {a b : Nat} (ha : a < 18446744073709551616) (hb : b < 18446744073709551616) (i : Nat) : (wo a b).testBit i = (a.testBit i && !b.testBit i) := by
  by_cases h : i < 64
  · exact ndn_test a b i hb h
  · have e1 : a.testBit i = false := Nat.testBit_lt_two_pow (Nat.lt_of_lt_of_le (m := 2 ^ 64) ha (Nat.pow_le_pow_right (n := 2) (by omega) (by omega)))
    unfold wo ndn
    rw [Nat.testBit_and, e1]
    rfl
theorem wo_le (a b : Nat) : wo a b ≤ a := Nat.and_le_left
/-- An atom gives its variables but the protected ones, where it is the first or meets the set. -/
def rulesQ (A : List (Nat × Nat)) (k : Nat) (plus : Nat) : List Rule := A.mapIdx fun i s => ⟨fun S => decide (i = k) || decide (s.2 &&& S ≠ 0), wo s.2 plus⟩
theorem rulesQ_len (A : List (Nat × Nat)) (k plus : Nat) : (rulesQ A k plus).length = A.length := List.length_mapIdx
theorem rulesQ_at (A : List (Nat × Nat)) (k plus i : Nat) (h : i < A.length) : (rulesQ A k plus)[i]'(by rw [rulesQ_len]; exact h) = ⟨fun S => decide (i = k) || decide (A[i].2 &&& S ≠ 0), wo A[i].2 plus⟩ := by
  unfold rulesQ
  rw [List.getElem_mapIdx]
theorem and_ne {a b : Nat} : a &&& b ≠ 0 ↔ ∃ i, a.testBit i = true ∧ b.testBit i = true := by
  constructor
  · intro h
    apply Classical.byContradiction
    intro hn
    apply h
    apply Nat.eq_of_testBit_eq
    intro i
    rw [Nat.testBit_and, Nat.zero_testBit]
    cases ea : a.testBit i <;> cases eb : b.testBit i <;> simp
    exact hn ⟨i, ea, eb⟩
  · rintro ⟨i, h1, h2⟩ h
    have := congrArg (Nat.testBit · i) h
    simp only [Nat.testBit_and, h1, h2, Nat.zero_testBit] at this
    cases this
theorem and_mono {a S T : Nat} (h : sub S T) (h1 : a &&& S ≠ 0) : a &&& T ≠ 0 := by
  obtain ⟨i, h2, h3⟩ := and_ne.1 h1
  exact and_ne.2 ⟨i, h2, sub_iff.1 h i h3⟩
theorem rulesQ_mono (A : List (Nat × Nat)) (k plus : Nat) : monos (rulesQ A k plus) := by
  intro r hr
  obtain ⟨i, hi, rfl⟩ := List.mem_mapIdx.1 hr
  intro S T h h1
  simp only [Bool.or_eq_true, decide_eq_true_eq] at h1 ⊢
  exact h1.imp (fun h => h) (and_mono h)
theorem rulesQ_lt {A : List (Nat × Nat)} (h : allIn A 16) (k plus : Nat) : ∀ r, r ∈ rulesQ A k plus → r.add < 16 := by
  intro r hr
  obtain ⟨i, hi, rfl⟩ := List.mem_mapIdx.1 hr
  exact Nat.lt_of_le_of_lt (wo_le _ _) (h _ (List.getElem_mem hi)).2
/-- The variables that are closed off from an atom's attacks. -/
def plusP (F : Nat) (A : List (Nat × Nat)) (k : Nat) : Nat := closP A (k : Int) (F ||| (A.getD k (0, 0)).1)
theorem getD_in {A : List (Nat × Nat)} {M : Nat} (h0 : 0 < M) (h : allIn A M) (k : Nat) : (A.getD k (0, 0)).1 < M ∧ (A.getD k (0, 0)).2 < M := by
  rw [List.getD_eq_getElem?_getD]
  by_cases hk : k < A.length
  · rw [List.getElem?_eq_getElem hk]
    exact h _ (List.getElem_mem hk)
  · rw [List.getElem?_eq_none (by omega)]
    exact ⟨h0, h0⟩
theorem plusP_lt {F : Nat} {A : List (Nat × Nat)} (hF : F < 16) (h : allIn A 16) (k : Nat) : plusP F A k < 16 := closP_lt h _ (or16 _ _ hF (getD_in (by omega) h k).1)
/-- The variables that an atom attacks. -/
def attP (F : Nat) (A : List (Nat × Nat)) (k : Nat) : Nat := rounds (rulesQ A k (plusP F A k)) (A.length + 1) 0
theorem attP_lt {A : List (Nat × Nat)} (h : allIn A 16) (F k : Nat) : attP F A k < 16 := rounds_lt or16 (rulesQ_lt h k _) (by omega) _
/-- Grown from a start by the rules' steps: the least set that the rules (the start among them) leave as it is. -/
theorem grows_eq2 {rs : List Rule} (hm : monos rs) {f : Nat → Nat} {s R n : Nat} (h : Grows f s R) (hn : rs.length ≤ n) (h1 : ∀ T, closed rs T → sub s T) (h2 : ∀ T, closed rs T → ∀ S, sub S T → sub (f S) T) (h3 : closed rs R) : R = rounds rs n 0 :=
  sub_anti (h.least (h2 _ (rounds_done hm hn)) (h1 _ (rounds_done hm hn))) (rounds_in hm h3 (sub_zero _) n)
theorem wo_or {a b p : Nat} (ha : a < 18446744073709551616) (hb : b < 18446744073709551616) (hp : p < 18446744073709551616) : wo (a ||| b) p = wo a p ||| wo b p := by
  apply Nat.eq_of_testBit_eq
  intro i
  rw [Nat.testBit_or, wo_test (or_lt _ _ ha hb) hp, wo_test ha hp, wo_test hb hp, Nat.testBit_or]
  cases a.testBit i <;> cases b.testBit i <;> simp
/-- All variables of the atoms that meet the set. -/
def nbrs (A : List (Nat × Nat)) (S : Nat) : Nat := A.foldl (fun B s => if s.2 &&& S ≠ 0 then B ||| s.2 else B) 0
theorem nbrs_from (A : List (Nat × Nat)) (S B i : Nat) : (A.foldl (fun B s => if s.2 &&& S ≠ 0 then B ||| s.2 else B) B).testBit i = (B.testBit i || A.any fun s => decide (s.2 &&& S ≠ 0) && s.2.testBit i) := by
  induction A generalizing B with
  | nil => simp
  | cons s A ih =>
    rw [List.foldl_cons, ih, List.any_cons]
    by_cases h : s.2 &&& S ≠ 0
    · rw [if_pos h, Nat.testBit_or, Bool.or_assoc]
      simp [h]
    · rw [if_neg h]
      simp [h]
theorem nbrs_test (A : List (Nat × Nat)) (S i : Nat) : (nbrs A S).testBit i = true ↔ ∃ s, s ∈ A ∧ s.2 &&& S ≠ 0 ∧ s.2.testBit i = true := by
  unfold nbrs
  rw [nbrs_from]
  simp only [Nat.zero_testBit, Bool.false_or, List.any_eq_true, Bool.and_eq_true, decide_eq_true_eq]
theorem nbrs_lt {A : List (Nat × Nat)} (h : allIn A 16) (S : Nat) : nbrs A S < 16 := by
  apply Nat.lt_pow_two_of_testBit (n := 4)
  intro i hi
  cases e : (nbrs A S).testBit i with
  | false => rfl
  | true =>
    obtain ⟨s, h1, _, h2⟩ := (nbrs_test A S i).1 e
    rw [Nat.testBit_lt_two_pow (Nat.lt_of_lt_of_le (m := 2 ^ 4) (h s h1).2 (Nat.pow_le_pow_right (n := 2) (by omega) hi))] at h2
    cases h2
theorem attP_grows {F : Nat} {A : List (Nat × Nat)} (hF : F < 16) (h : allIn A 16) {k : Nat} (hk : k < A.length) : Grows (fun S => wo (nbrs A S) (plusP F A k)) (wo (A.getD k (0, 0)).2 (plusP F A k)) (attP F A k) := by
  have hp := plusP_lt hF h k
  have ht : ∀ {a : Nat}, a < 16 → ∀ i, (wo a (plusP F A k)).testBit i = (a.testBit i && !(plusP F A k).testBit i) := fun ha i => wo_test (by omega) (by omega) i
  obtain ⟨R, hR⟩ := grows_ex (f := fun S => wo (nbrs A S) (plusP F A k)) or16 (fun S _ => Nat.lt_of_le_of_lt (wo_le _ _) (nbrs_lt h S)) _ (wo (A.getD k (0, 0)).2 (plusP F A k)) (Nat.le_refl _) (Nat.lt_of_le_of_lt (wo_le _ _) (getD_in (by omega) h k).2)
  have hcl : ∀ T, closed (rulesQ A k (plusP F A k)) T ↔ ∀ i (hi : i < A.length), (i = k ∨ A[i].2 &&& T ≠ 0) → sub (wo A[i].2 (plusP F A k)) T := by
    intro T
    constructor
    · intro hc i hi h1
      refine hc ⟨fun S => decide (i = k) || decide (A[i].2 &&& S ≠ 0), wo A[i].2 (plusP F A k)⟩ (List.mem_mapIdx.2 ⟨i, hi, rfl⟩) ?_
      simp only [Bool.or_eq_true, decide_eq_true_eq]
      exact h1
    · intro hc r hr h1
      obtain ⟨i, hi, rfl⟩ := List.mem_mapIdx.1 hr
      simp only [Bool.or_eq_true, decide_eq_true_eq] at h1
      exact hc i hi h1
  have hgk : A.getD k (0, 0) = A[k] := by rw [List.getD_eq_getElem?_getD, List.getElem?_eq_getElem hk]; rfl
  have e : R = attP F A k := by
    refine grows_eq2 (rulesQ_mono A k _) hR (by rw [rulesQ_len]; omega) (fun T hT => ?_) (fun T hT S hS => ?_) ((hcl R).2 fun i hi h1 => ?_)
    · rw [hgk]
      exact (hcl T).1 hT k hk (.inl rfl)
    · rw [sub_iff]
      intro j hj
      rw [ht (nbrs_lt h S), Bool.and_eq_true] at hj
      obtain ⟨s, h1, h2, h3⟩ := (nbrs_test A S j).1 hj.1
      obtain ⟨i, hi, rfl⟩ := List.getElem_of_mem h1
      refine sub_iff.1 ((hcl T).1 hT i hi (.inr (and_mono hS h2))) j ?_
      rw [ht (h _ (List.getElem_mem hi)).2, h3, hj.2]
      rfl
    · rcases h1 with rfl | h1
      · have := hR.up
        rwa [hgk] at this
      · refine sub_trans (sub_iff.2 fun j hj => ?_) hR.fix
        rw [ht (h _ (List.getElem_mem hi)).2, Bool.and_eq_true] at hj
        rw [ht (nbrs_lt h R), hj.2, Bool.and_true]
        exact (nbrs_test A R j).2 ⟨_, List.getElem_mem hi, h1, hj.1⟩
  rw [← e]
  exact hR
/-- An atom attacks another. -/
def hasP (F : Nat) (A : List (Nat × Nat)) (i k : Nat) : Bool := decide (i ≠ k) && decide (attP F A i &&& (A.getD k (0, 0)).2 ≠ 0)
def weakP (F : Nat) (A : List (Nat × Nat)) (i k : Nat) : Bool := hasP F A i k && decide (sub (A.getD k (0, 0)).1 (closP A (-1) (F ||| (A.getD i (0, 0)).1)))
/-- The atoms that an atom attacks. -/
def atoP (F : Nat) (A : List (Nat × Nat)) (i : Nat) : Nat := bitsP A.length fun k => hasP F A i k
def rulesR (F : Nat) (A : List (Nat × Nat)) (i : Nat) : List Rule := (List.range A.length).map fun a => ⟨fun S => decide (a = i) || S.testBit a, atoP F A a⟩
/-- The atoms to which a path of attacks leads. -/
def pathP (F : Nat) (A : List (Nat × Nat)) (i : Nat) : Nat := rounds (rulesR F A i) (A.length + 1) 0
theorem rulesR_mono (F : Nat) (A : List (Nat × Nat)) (i : Nat) : monos (rulesR F A i) := by
  intro r hr
  obtain ⟨a, _, rfl⟩ := List.mem_map.1 hr
  intro S T h h1
  simp only [Bool.or_eq_true, decide_eq_true_eq] at h1 ⊢
  exact h1.imp (fun h => h) (sub_iff.1 h a)
theorem rulesR_len (F : Nat) (A : List (Nat × Nat)) (i : Nat) : (rulesR F A i).length = A.length := by simp [rulesR]
theorem atoP_lt (F : Nat) (A : List (Nat × Nat)) (i : Nat) : atoP F A i < 2 ^ A.length := bitsP_lt _ _
theorem pathP_lt (F : Nat) (A : List (Nat × Nat)) (i : Nat) : pathP F A i < 2 ^ A.length :=
  rounds_lt (fun a b ha hb => Nat.or_lt_two_pow ha hb) (fun r hr => by obtain ⟨a, _, rfl⟩ := List.mem_map.1 hr; exact atoP_lt F A a) (Nat.two_pow_pos _) _
/-- The atoms that those of a set attack. -/
def nextP (F : Nat) (A : List (Nat × Nat)) (l : List Int) : Nat := l.foldl (fun B a => B ||| atoP F A a.toNat) 0
theorem nextP_from (F : Nat) (A : List (Nat × Nat)) (l : List Int) (B i : Nat) : (l.foldl (fun B a => B ||| atoP F A a.toNat) B).testBit i = (B.testBit i || l.any fun a => (atoP F A a.toNat).testBit i) := by
  induction l generalizing B with
  | nil => simp
  | cons a l ih => rw [List.foldl_cons, ih, List.any_cons, Nat.testBit_or, Bool.or_assoc]
theorem nextP_test (F : Nat) (A : List (Nat × Nat)) (S i : Nat) : (nextP F A (elemsN 64 S)).testBit i = true ↔ ∃ a, a < 64 ∧ S.testBit a = true ∧ (atoP F A a).testBit i = true := by
  unfold nextP
  rw [nextP_from]
  simp only [Nat.zero_testBit, Bool.false_or, List.any_eq_true]
  constructor
  · rintro ⟨x, h1, h2⟩
    obtain ⟨v, h3, h4, rfl⟩ := elems_mem.1 h1
    exact ⟨v, h3, h4, by simpa using h2⟩
  · rintro ⟨a, h1, h2, h3⟩
    exact ⟨(a : Int), elems_mem.2 ⟨a, h1, h2, rfl⟩, by simpa using h3⟩
theorem nextP_lt (F : Nat) (A : List (Nat × Nat)) (l : List Int) : nextP F A l < 2 ^ A.length := by
  apply Nat.lt_pow_two_of_testBit
  intro i hi
  unfold nextP
  rw [nextP_from]
  rw [Bool.eq_false_iff]
  intro h
  simp only [Nat.zero_testBit, Bool.false_or, List.any_eq_true] at h
  obtain ⟨a, _, h2⟩ := h
  rw [Nat.testBit_lt_two_pow (Nat.lt_of_lt_of_le (atoP_lt F A a.toNat) (Nat.pow_le_pow_right (n := 2) (by omega) hi))] at h2
  cases h2
theorem pathP_grows (F : Nat) (A : List (Nat × Nat)) (hA : A.length ≤ 64) {i : Nat} (hi : i < A.length) : Grows (fun S => nextP F A (elemsN 64 S)) (atoP F A i) (pathP F A i) := by
  obtain ⟨R, hR⟩ := grows_ex (f := fun S => nextP F A (elemsN 64 S)) (M := 2 ^ A.length) (fun a b ha hb => Nat.or_lt_two_pow ha hb) (fun S _ => nextP_lt F A _) _ (atoP F A i) (Nat.le_refl _) (atoP_lt F A i)
  have hRl : R < 2 ^ A.length := hR.lt (fun a b ha hb => Nat.or_lt_two_pow ha hb) (fun S _ => nextP_lt F A _) (atoP_lt F A i)
  have hcl : ∀ T, closed (rulesR F A i) T ↔ ∀ a, a < A.length → (a = i ∨ T.testBit a = true) → sub (atoP F A a) T := by
    intro T
    constructor
    · intro hc a ha h1
      refine hc ⟨fun S => decide (a = i) || S.testBit a, atoP F A a⟩ (List.mem_map.2 ⟨a, List.mem_range.2 ha, rfl⟩) ?_
      simp only [Bool.or_eq_true, decide_eq_true_eq]
      exact h1
    · intro hc r hr h1
      obtain ⟨a, ha, rfl⟩ := List.mem_map.1 hr
      simp only [Bool.or_eq_true, decide_eq_true_eq] at h1
      exact hc a (List.mem_range.1 ha) h1
  have hz : ∀ a, A.length ≤ a → atoP F A a = atoP F A a := fun _ _ => rfl
  have e : R = pathP F A i := by
    refine sub_anti ?_ ?_
    · -- the rounds' set may hold nothing beyond the atoms
      have hcT := (hcl _).1 (rounds_done (n := A.length + 1) (S := 0) (rulesR_mono F A i) (by rw [rulesR_len]; omega))
      have hT := pathP_lt F A i
      refine hR.least (T := pathP F A i) (fun S hS => sub_iff.2 fun j hj => ?_) (hcT i hi (.inl rfl))
      obtain ⟨a, h1, h2, h3⟩ := (nextP_test F A S j).1 hj
      have hTa := sub_iff.1 hS a h2
      have ha : a < A.length := by
        apply Nat.lt_of_not_le
        intro hle
        rw [Nat.testBit_lt_two_pow (Nat.lt_of_lt_of_le hT (Nat.pow_le_pow_right (n := 2) (by omega) hle))] at hTa
        cases hTa
      exact sub_iff.1 (hcT a ha (.inr hTa)) j h3
    · refine rounds_in (rulesR_mono F A i) ((hcl R).2 fun a ha h1 => ?_) (sub_zero _) _
      rcases h1 with rfl | h1
      · exact hR.up
      · exact sub_trans (sub_iff.2 fun j hj => (nextP_test F A R j).2 ⟨a, by omega, h1, hj⟩) hR.fix
  rw [← e]
  exact hR
end Go.Proofs.YtlhdagpimcafaaaDoor.Ab

/- Chapter 14: sets of bits that grow; the closures of the program. -/
open Go Go.Proofs Go.RowKit
namespace Go.Proofs.YtlhdagpimcafaaaDoor.Ab
set_option linter.unusedSimpArgs false
set_option linter.unusedVariables false
set_option maxRecDepth 100000
def encSh (s : Nat × Nat) : List D := [.v (.int .u64 (s.1 : Int)), .v (.int .u64 (s.2 : Int))]
def shS (F : Nat) (A : List (Nat × Nat)) : S := .a [.d (.v (.int .u64 (F : Int))), .d (.sl (A.map encSh))]
theorem getS {A : List (Nat × Nat)} {i : Nat} (h : i < A.length) : (A.map encSh)[i]? = some [.v (.int .u64 (A[i].1 : Int)), .v (.int .u64 (A[i].2 : Int))] := by simp [h, encSh]
theorem eqNn (a b : Nat) : (((a : Nat) : Int) == ((b : Nat) : Int)) = decide (a = b) := by
  rw [Bool.eq_iff_iff, beq_iff_eq, decide_eq_true_eq]
  omega
theorem eq0N (a : Nat) : (((a : Nat) : Int) == 0) = decide (a = 0) := eqNn a 0
theorem ne0N (a : Nat) : (((a : Nat) : Int) != 0) = decide (a ≠ 0) := by
  rw [Bool.eq_iff_iff, bne_iff_ne, decide_eq_true_eq]
  omega
theorem ndn_zero {a b : Nat} (ha : a < 18446744073709551616) (hb : b < 18446744073709551616) : (ndn a b = 0) = sub a b := by
  rw [eq_iff_iff, sub_iff]
  constructor
  · intro h i hi
    have h1 := wo_test ha hb i
    unfold wo at h1
    rw [h, Nat.zero_testBit, hi] at h1
    simpa using h1.symm
  · intro h
    apply Nat.eq_of_testBit_eq
    intro i
    have h1 := wo_test ha hb i
    unfold wo at h1
    rw [h1, Nat.zero_testBit]
    cases e : a.testBit i with
    | false => rfl
    | true => rw [h i e]; rfl
theorem intersects_a (a b : Nat) (ha : a < 18446744073709551616) (hb : b < 18446744073709551616) : AC Tryd.prog 63 [.d (.v (.int .u64 a)), .d (.v (.int .u64 b))] (.d (.v (.bool (decide (a &&& b ≠ 0))))) := by
  have e1 := bAnd a b ha hb
  refine AC.intro Tryd.func63 rfl (by decide) (by simp [S.res, S.ress]) (by simp [S.os, S.oss]) (by simp [S.wfs, S.wf, dbS]) (by simp [Tryd.f63]) ?_; rw [Tryd.ntmps63]
  repeat (first | refine aq ?_ | refine ap (by rfl : apartB 0 _ _ = true) ?_ | refine ak ?_ | refine ab ?_ | refine al ?_ | ((first | refine ar ?_ | refine ad ty_mix (by kernel_rfl) ?_ | refine ac ?_ | refine ae ?_ | with_reducible refine Later.mk ?_); simp only [evD, evL, iteL, St.said, St.asked, evStep, evOp, evP, St.init, St.app, srcStep, kill, setMany, loadS, fieldS, buildS, toks, Fin, upd_app, Array.isEmpty, Nat.reduceLT, Nat.reduceAdd, Nat.reduceMul, Nat.reduceLeDiff, Nat.reduceSub, Nat.reduceEqDiff, reduceCtorEq, reduceIte, ↓Opt.is, ↓Opt.no, ↓Asks.yes, ↓Asks.no, tyL, encL, e1, ne0N, asB]))
  refine Ab.ret ?_; simp only [evD, evL, iteL, St.said, St.asked, evStep, evOp, evP, St.init, St.app, srcStep, kill, setMany, loadS, fieldS, buildS, toks, Fin, upd_app, Array.isEmpty, Nat.reduceLT, Nat.reduceAdd, Nat.reduceMul, Nat.reduceLeDiff, Nat.reduceSub, Nat.reduceEqDiff, reduceCtorEq, reduceIte, ↓Opt.is, ↓Opt.no, ↓Asks.yes, ↓Asks.no, tyL, List.nodup_cons, encL, Tryd.f63]
/-- The numbers of a list as bits. -/
def bitsI (l : List Int) : Nat := l.foldl (fun b x => b ||| 2 ^ x.toNat) 0
def in64 (l : List Int) : Prop := ∀ x, x ∈ l → 0 ≤ x ∧ x < 64
theorem bitsI_snoc (l : List Int) (x : Int) : bitsI (l ++ [x]) = bitsI l ||| 2 ^ x.toNat := by
  unfold bitsI
  rw [List.foldl_append]
  rfl
theorem bitsI_from (l : List Int) (b : Nat) (i : Nat) (h : in64 l) : (l.foldl (fun b x => b ||| 2 ^ x.toNat) b).testBit i = (b.testBit i || l.contains (i : Int)) := by
  induction l generalizing b with
  | nil => simp
  | cons x l ih =>
    have hx := h x (List.mem_cons_self ..)
    rw [List.foldl_cons, ih _ (fun y hy => h y (List.mem_cons_of_mem _ hy)), Nat.testBit_or, Nat.testBit_two_pow, List.contains_cons, Bool.or_assoc]
    congr 2
    rw [Bool.eq_iff_iff, decide_eq_true_eq, beq_iff_eq]
    omega
theorem bitsI_test (l : List Int) (h : in64 l) (i : Nat) : (bitsI l).testBit i = l.contains (i : Int) := by
  unfold bitsI
  rw [bitsI_from l 0 i h, Nat.zero_testBit, Bool.false_or]
theorem bitsI_lt (l : List Int) (h : in64 l) : bitsI l < 18446744073709551616 := by
  apply Nat.lt_pow_two_of_testBit (n := 64)
  intro i hi
  rw [bitsI_test l h, Bool.eq_false_iff]
  intro hc
  have := (h _ (List.contains_iff_mem.1 hc)).2
  omega
theorem bitsI_elems {b : Nat} (hb : b < 16) : bitsI (elemsN 4 b) = b := by
  have hin : in64 (elemsN 4 b) := fun x hx => by
    obtain ⟨v, h1, _, rfl⟩ := elems_mem.1 hx
    omega
  apply Nat.eq_of_testBit_eq
  intro i
  rw [bitsI_test _ hin, elems_test]
  by_cases h : i < 4
  · simp [h]
  · have := Nat.testBit_lt_two_pow (Nat.lt_of_lt_of_le (m := 2 ^ 4) hb (Nat.pow_le_pow_right (n := 2) (i := 4) (j := i) (by omega) (by omega)))
    simp [h, this]
theorem bitSetOf_a (l : List Int) (hl : l.length ≤ 1048576) (h : in64 l) : AC Tryd.prog 51 [.d (encIs l)] (.d (.v (.int .u64 (bitsI l : Nat)))) := by
  refine AC.intro Tryd.func51 rfl (by decide) (by simp [S.res, S.ress]) (by simp [S.os, S.oss]) (by simp [S.wfs, S.wf, dbS]) (by simp [Tryd.f51]) ?_; rw [Tryd.ntmps51]
  repeat (first | refine aq ?_ | refine ap (by rfl : apartB 0 _ _ = true) ?_ | refine ak ?_ | refine ab ?_ | refine al ?_ | ((first | refine ar ?_ | refine ad ty_mix (by kernel_rfl) ?_ | refine ac ?_ | refine ae ?_ | with_reducible refine Later.mk ?_); simp only [evD, evL, iteL, St.said, St.asked, evStep, evOp, evP, St.init, St.app, srcStep, kill, setMany, loadS, fieldS, buildS, toks, Fin, upd_app, Array.isEmpty, Nat.reduceLT, Nat.reduceAdd, Nat.reduceMul, Nat.reduceLeDiff, Nat.reduceSub, Nat.reduceEqDiff, reduceCtorEq, reduceIte, ↓Opt.is, ↓Opt.no, ↓Asks.yes, ↓Asks.no, tyL, encL, asB]))
  refine Ab.loopI l.length (fun _ => True) (fun i => mkS 17 [(3, .d (.v (.int .u64 (bitsI (l.take i) : Nat)))), (6, .d (.sl (List.map encI l))), (7, .d (.v (.int .i64 (l.length : Int)))), (8, .d (.v (.int .i64 (i : Int))))] [] 200) trivial ?_ ?_
  · ((first | refine Le.mk rfl ?_ ?_ | refine LeTo.mk rfl ?_ ?_) <;> simp only [evD, evL, iteL, St.said, St.asked, evStep, evOp, evP, St.init, St.app, srcStep, kill, setMany, loadS, fieldS, buildS, toks, Fin, upd_app, Array.isEmpty, Nat.reduceLT, Nat.reduceAdd, Nat.reduceMul, Nat.reduceLeDiff, Nat.reduceSub, Nat.reduceEqDiff, reduceCtorEq, reduceIte, ↓Opt.is, ↓Opt.no, ↓Asks.yes, ↓Asks.no, tyL, encL, leL, leD, ne_eq, List.take_zero, bitsI, List.foldl_nil])
  intro i hi _
  repeat (first | refine aq ?_ | refine ap (by rfl : apartB 0 _ _ = true) ?_ | refine ak ?_ | refine ab ?_ | refine al ?_ | ((first | refine ar ?_ | refine ad ty_mix (by kernel_rfl) ?_ | refine ac ?_ | refine ae ?_ | with_reducible refine Later.mk ?_); simp only [evD, evL, iteL, St.said, St.asked, evStep, evOp, evP, St.init, St.app, srcStep, kill, setMany, loadS, fieldS, buildS, toks, Fin, upd_app, Array.isEmpty, Nat.reduceLT, Nat.reduceAdd, Nat.reduceMul, Nat.reduceLeDiff, Nat.reduceSub, Nat.reduceEqDiff, reduceCtorEq, reduceIte, ↓Opt.is, ↓Opt.no, ↓Asks.yes, ↓Asks.no, tyL, encL, mkS, updl, asB]))
  refine ⟨fun h2 => ?_, fun h2 => ?_⟩
  · have h2 : i < l.length := by simpa using h2
    have hw := wrapN h2 (by omega)
    obtain ⟨p, hp⟩ : ∃ p : Nat, l[i] = (p : Int) := ⟨l[i].toNat, by have := (h _ (List.getElem_mem h2)).1; omega⟩
    have hp64 : p < 64 := by have := (h _ (List.getElem_mem h2)).2; omega
    have hlt := bitsI_lt (l.take i) (fun x hx => h x (List.mem_of_mem_take hx))
    have hs : bitsI (l.take (i + 1)) = bitsI (l.take i) ||| 2 ^ p := by
      rw [List.take_succ_eq_append_getElem h2, bitsI_snoc, hp]
      rfl
    have hc := bits_with_a (bitsI (l.take i)) p hlt hp64
    generalize bitsI (l.take i) = B at *
    repeat (first | refine aq ?_ | refine ap (by rfl : apartB 0 _ _ = true) ?_ | refine ak ?_ | refine ab ?_ | refine al ?_ | ((first | refine ar ?_ | refine ad ty_mix (by kernel_rfl) ?_ | refine ac ?_ | refine ae ?_ | with_reducible refine Later.mk ?_); simp only [evD, evL, iteL, St.said, St.asked, evStep, evOp, evP, St.init, St.app, srcStep, kill, setMany, loadS, fieldS, buildS, toks, Fin, upd_app, Array.isEmpty, Nat.reduceLT, Nat.reduceAdd, Nat.reduceMul, Nat.reduceLeDiff, Nat.reduceSub, Nat.reduceEqDiff, reduceCtorEq, reduceIte, ↓Opt.is, ↓Opt.no, ↓Asks.yes, ↓Asks.no, tyL, encL, getI h2, hp, asB]))
    refine ⟨_, hc, ?_⟩; (repeat (first | refine ap (by rfl : apartB 0 _ _ = true) ?_ | refine ap (by simp [osL, D.flat]) ?_)); repeat (first | refine aq ?_ | refine ap (by rfl : apartB 0 _ _ = true) ?_ | refine ak ?_ | refine ab ?_ | refine al ?_ | ((first | refine ar ?_ | refine ad ty_mix (by kernel_rfl) ?_ | refine ac ?_ | refine ae ?_ | with_reducible refine Later.mk ?_); simp only [evD, evL, iteL, St.said, St.asked, evStep, evOp, evP, St.init, St.app, srcStep, kill, setMany, loadS, fieldS, buildS, toks, Fin, upd_app, Array.isEmpty, Nat.reduceLT, Nat.reduceAdd, Nat.reduceMul, Nat.reduceLeDiff, Nat.reduceSub, Nat.reduceEqDiff, reduceCtorEq, reduceIte, ↓Opt.is, ↓Opt.no, ↓Asks.yes, ↓Asks.no, tyL, encL, hw, asB]))
    refine ⟨h2, ?_⟩
    ((first | refine Le.mk rfl ?_ ?_ | refine LeTo.mk rfl ?_ ?_) <;> simp only [evD, evL, iteL, St.said, St.asked, evStep, evOp, evP, St.init, St.app, srcStep, kill, setMany, loadS, fieldS, buildS, toks, Fin, upd_app, Array.isEmpty, Nat.reduceLT, Nat.reduceAdd, Nat.reduceMul, Nat.reduceLeDiff, Nat.reduceSub, Nat.reduceEqDiff, reduceCtorEq, reduceIte, ↓Opt.is, ↓Opt.no, ↓Asks.yes, ↓Asks.no, tyL, encL, leL, leD, ne_eq, hs])
  · have h2 : i = l.length := by have := of_decide_eq_false h2; omega
    subst h2
    repeat (first | refine aq ?_ | refine ap (by rfl : apartB 0 _ _ = true) ?_ | refine ak ?_ | refine ab ?_ | refine al ?_ | ((first | refine ar ?_ | refine ad ty_mix (by kernel_rfl) ?_ | refine ac ?_ | refine ae ?_ | with_reducible refine Later.mk ?_); simp only [evD, evL, iteL, St.said, St.asked, evStep, evOp, evP, St.init, St.app, srcStep, kill, setMany, loadS, fieldS, buildS, toks, Fin, upd_app, Array.isEmpty, Nat.reduceLT, Nat.reduceAdd, Nat.reduceMul, Nat.reduceLeDiff, Nat.reduceSub, Nat.reduceEqDiff, reduceCtorEq, reduceIte, ↓Opt.is, ↓Opt.no, ↓Asks.yes, ↓Asks.no, tyL, encL, asB]))
    refine Ab.ret ?_; simp only [evD, evL, iteL, St.said, St.asked, evStep, evOp, evP, St.init, St.app, srcStep, kill, setMany, loadS, fieldS, buildS, toks, Fin, upd_app, Array.isEmpty, Nat.reduceLT, Nat.reduceAdd, Nat.reduceMul, Nat.reduceLeDiff, Nat.reduceSub, Nat.reduceEqDiff, reduceCtorEq, reduceIte, ↓Opt.is, ↓Opt.no, ↓Asks.yes, ↓Asks.no, tyL, List.nodup_cons, encL, Tryd.f51, List.take_length]
end Go.Proofs.YtlhdagpimcafaaaDoor.Ab
