/- Texts behind FnExactParetoOptimalRepairs, put together. -/
import Derived.Test.YtgipcnofonejcaaDoorMgFnExactParetoOptimalRepairsE
section
/- PrfOne: PrfP PrfI PrfM PrfU. -/
/- Chapter 28: preferences between facts in conflict: pure. -/
open Go Go.Proofs Go.RowKit
namespace Go.Proofs.YtgipcnofonejcaaDoor.Ab
set_option linter.unusedSimpArgs false
set_option linter.unusedVariables false
set_option maxRecDepth 100000
/-- Is there an edge between the two, as the model asks it? -/
def edgeP (l : List Edg) (a b : Int) : Bool := l.any fun e => decide (e.a = min a b) && decide (e.b = max a b)
def hasPE (n : Nat) (l : List Edg) (a b : Int) : Bool := (decide (0 ≤ a) && decide (a < (n : Int))) && ((decide (0 ≤ b) && decide (b < (n : Int))) && adjE l a.toNat b.toNat)
theorem has_edge {n : Nat} {l : List Edg} (hl : okN n l) (a b : Int) : hasPE n l a b = (!decide (a = b) && edgeP l a b) := by
  unfold hasPE edgeP adjE
  rw [Bool.eq_iff_iff]
  simp only [Bool.and_eq_true, List.any_eq_true, Bool.or_eq_true, Bool.not_eq_true', decide_eq_true_eq, decide_eq_false_iff_not]
  constructor
  · rintro ⟨⟨h1, h2⟩, ⟨h3, h4⟩, e, he, h5⟩
    have := hl e he
    refine ⟨by omega, e, he, by omega, by omega⟩
  · rintro ⟨h1, e, he, h2, h3⟩
    have := hl e he
    refine ⟨⟨by omega, by omega⟩, ⟨by omega, by omega⟩, e, he, by omega⟩
def prE (n : Nat) (l p : List Edg) : Bool := p.all fun e => hasPE n l e.a e.b
def isPr (p : List Edg) (a b : Int) : Bool := p.any fun e => decide (e.a = a) && decide (e.b = b)
def okP (n : Nat) (p : List Edg) : Prop := ∀ e, e ∈ p → 0 ≤ e.a ∧ e.a < (n : Int) ∧ 0 ≤ e.b ∧ e.b < (n : Int)
theorem prE_ok {n : Nat} {l p : List Edg} (h : prE n l p = true) : okP n p := fun e he => by
  unfold prE at h
  have := List.all_eq_true.1 h e he
  unfold hasPE at this
  simp only [Bool.and_eq_true, decide_eq_true_eq] at this
  omega
def wrs (n : Nat) (p : List Edg) : List Nat := p.foldl (fun G e => addB G e.a.toNat e.b.toNat) (List.replicate n 0)
theorem wrs_snoc (n : Nat) (p : List Edg) (e : Edg) : wrs n (p ++ [e]) = addB (wrs n p) e.a.toNat e.b.toNat := by
  unfold wrs
  rw [List.foldl_append]
  rfl
theorem foldw_len (p : List Edg) : ∀ G : List Nat, (p.foldl (fun G e => addB G e.a.toNat e.b.toNat) G).length = G.length := by
  induction p with
  | nil => intro G; rfl
  | cons e l ih => intro G; rw [List.foldl_cons, ih, addB_len]
theorem wrs_len (n : Nat) (p : List Edg) : (wrs n p).length = n := by
  unfold wrs
  rw [foldw_len, List.length_replicate]
theorem foldw_test {n : Nat} : ∀ (p : List Edg) (G : List Nat), okP n p → G.length = n → ∀ x y : Nat, ((p.foldl (fun G e => addB G e.a.toNat e.b.toNat) G).getD x 0).testBit y = ((G.getD x 0).testBit y || isPr p x y)
  | [], G, _, _, x, y => by simp [isPr]
  | e :: l, G, h, hn, x, y => by
    obtain ⟨h1, h2, h3, h4⟩ := h e (by simp)
    rw [List.foldl_cons, foldw_test l _ (fun z hz => h z (List.mem_cons_of_mem _ hz)) (by rw [addB_len, hn]), addB_test _ _ _ _ (by omega)]
    unfold isPr
    rw [List.any_cons, Bool.or_assoc]
    congr 1
    congr 1
    rw [Bool.eq_iff_iff]
    simp only [Bool.and_eq_true, decide_eq_true_eq]
    omega
theorem wrs_test {n : Nat} {p : List Edg} (h : okP n p) (x y : Nat) : ((wrs n p).getD x 0).testBit y = isPr p x y := by
  unfold wrs
  rw [foldw_test p _ h (by rw [List.length_replicate])]
  have : (List.replicate n 0).getD x 0 = 0 := by
    rw [List.getD_eq_getElem?_getD, List.getElem?_replicate]
    split <;> rfl
  rw [this, Nat.zero_testBit, Bool.false_or]
theorem isPr_in {n : Nat} {p : List Edg} (h : okP n p) {x y : Nat} (hp : isPr p x y = true) : x < n ∧ y < n := by
  unfold isPr at hp
  rw [List.any_eq_true] at hp
  obtain ⟨e, he, h2⟩ := hp
  have := h e he
  simp only [Bool.and_eq_true, decide_eq_true_eq] at h2
  omega
theorem wrs_lt {n : Nat} {p : List Edg} (h : okP n p) (hn : n ≤ 64) (x : Nat) : (wrs n p).getD x 0 < 18446744073709551616 := by
  apply Nat.lt_pow_two_of_testBit (n := 64)
  intro i hi
  rw [wrs_test h, Bool.eq_false_iff]
  intro ha
  have := isPr_in h ha
  omega
/-- What is in the one and not in the other. -/
def andNot (a b : Nat) : Nat := a ^^^ (a &&& b)
theorem andNot_test (a b i : Nat) : (andNot a b).testBit i = (a.testBit i && !b.testBit i) := by
  unfold andNot
  rw [Nat.testBit_xor, Nat.testBit_and]
  cases a.testBit i <;> cases b.testBit i <;> rfl
/-- Those of S that none of the first of the list beats. -/
def undP (W : List Nat) (S : Nat) : List Int → Nat
  | [] => S
  | v :: l => andNot (undP W S l) (W.getD v.toNat 0)
theorem undP_test (W : List Nat) (S y : Nat) : ∀ l : List Int, (undP W S l).testBit y = (S.testBit y && l.all fun v => !(W.getD v.toNat 0).testBit y)
  | [] => by simp [undP]
  | v :: l => by
    rw [undP, andNot_test, undP_test W S y l, List.all_cons]
    cases S.testBit y <;> cases (l.all fun v => !(W.getD v.toNat 0).testBit y) <;> cases (W.getD v.toNat 0).testBit y <;> rfl
def undS (W : List Nat) (S : Nat) : Nat := undP W S (elemsN 64 S).reverse
theorem undS_test {n : Nat} {p : List Edg} (h : okP n p) (hn : n ≤ 64) (S y : Nat) : (undS (wrs n p) S).testBit y = true ↔ S.testBit y = true ∧ ∀ x : Nat, S.testBit x = true → isPr p x y = false := by
  unfold undS
  rw [undP_test, Bool.and_eq_true, List.all_reverse, List.all_eq_true]
  constructor
  · rintro ⟨h1, h2⟩
    refine ⟨h1, fun x hx => ?_⟩
    cases hp : isPr p x y with
    | false => rfl
    | true =>
      have hi := isPr_in h hp
      have := h2 (x : Int) (elems_mem.2 ⟨x, by omega, hx, rfl⟩)
      rw [Int.toNat_natCast, wrs_test h, hp] at this
      simp at this
  · rintro ⟨h1, h2⟩
    refine ⟨h1, fun v hv => ?_⟩
    obtain ⟨x, h3, h4, rfl⟩ := elems_mem.1 hv
    rw [Int.toNat_natCast, wrs_test h, h2 x h4]
    rfl
/-- A set each of whose members is beaten by another of it. -/
def stuck (n : Nat) (p : List Edg) (T : Nat → Prop) : Prop := (∃ x, T x) ∧ ∀ y, T y → y < n ∧ ∃ x, T x ∧ isPr p x y = true
theorem andNot_und_le {W : List Nat} {S : Nat} (h : undS W S ≠ 0) : andNot S (undS W S) < S := by
  have hsub : ∀ i, (undS W S).testBit i = true → S.testBit i = true := fun i hi => by
    unfold undS at hi
    rw [undP_test, Bool.and_eq_true] at hi
    exact hi.1
  have e1 : andNot S (undS W S) &&& S = andNot S (undS W S) := by
    apply Nat.eq_of_testBit_eq
    intro i
    rw [Nat.testBit_and, andNot_test]
    cases S.testBit i <;> cases (undS W S).testBit i <;> rfl
  have h1 : andNot S (undS W S) ≤ S := by rw [← e1]; exact Nat.and_le_right
  have h2 : andNot S (undS W S) ≠ S := fun e => by
    apply h
    apply Nat.eq_of_testBit_eq
    intro i
    have e2 := congrArg (fun z => Nat.testBit z i) e
    simp only [andNot_test] at e2
    have := hsub i
    revert this e2
    rw [Nat.zero_testBit]
    cases S.testBit i <;> cases (undS W S).testBit i <;> simp
  omega
/-- What is left in the end. -/
def acyP (W : List Nat) (S : Nat) : Nat := if h : undS W S = 0 then S else acyP W (andNot S (undS W S))
termination_by S
decreasing_by exact andNot_und_le h
theorem acyP_stuck {n : Nat} {p : List Edg} (h : okP n p) (hn : n ≤ 64) {T : Nat → Prop} (ht : stuck n p T) : ∀ S : Nat, (∀ x, T x → S.testBit x = true) → acyP (wrs n p) S ≠ 0 := by
  intro S
  induction S using Nat.strongRecOn with
  | ind S ih =>
    intro hS
    rw [acyP]
    split
    · obtain ⟨x, hx⟩ := ht.1
      have := hS x hx
      intro e
      rw [e, Nat.zero_testBit] at this
      exact absurd this (by simp)
    · rename_i hu
      refine ih _ (andNot_und_le hu) (fun y hy => ?_)
      rw [andNot_test, hS y hy, Bool.true_and, Bool.not_eq_true', Bool.eq_false_iff]
      intro hq
      obtain ⟨_, x, hx, hp⟩ := ht.2 y hy
      rw [((undS_test h hn S y).1 hq).2 x (hS x hx)] at hp
      exact absurd hp (by simp)
theorem acyP_ne {n : Nat} {p : List Edg} (h : okP n p) (hn : n ≤ 64) : ∀ S : Nat, (∀ x, S.testBit x = true → x < n) → acyP (wrs n p) S ≠ 0 → ∃ T, stuck n p T := by
  intro S
  induction S using Nat.strongRecOn with
  | ind S ih =>
    intro hS
    rw [acyP]
    split
    · rename_i hu
      intro hne
      refine ⟨fun x => S.testBit x = true, ?_, fun y hy => ⟨hS y hy, ?_⟩⟩
      · apply Classical.byContradiction
        intro hno
        apply hne
        apply Nat.eq_of_testBit_eq
        intro i
        rw [Nat.zero_testBit, Bool.eq_false_iff]
        exact fun hi => hno ⟨i, hi⟩
      · apply Classical.byContradiction
        intro hno
        have : (undS (wrs n p) S).testBit y = true := (undS_test h hn S y).2 ⟨hy, fun x hx => by
          cases hp : isPr p x y with
          | false => rfl
          | true => exact absurd ⟨x, hx, hp⟩ hno⟩
        rw [hu, Nat.zero_testBit] at this
        exact absurd this (by simp)
    · rename_i hu
      refine ih _ (andNot_und_le hu) (fun x hx => ?_)
      rw [andNot_test, Bool.and_eq_true] at hx
      exact hS x hx.1
/-- The model's rounds. -/
def freeG (p : List Edg) (g : List Bool) (x : Nat) : Bool := p.all fun e => !decide (e.b = (x : Int)) || g.getD e.a.toNat false
def swG (p : List Edg) (g : List Bool) : Nat → List Bool
  | 0 => g
  | x + 1 => if freeG p (swG p g x) x = true then (swG p g x).set x true else swG p g x
def rdG (p : List Edg) (n : Nat) : Nat → List Bool
  | 0 => List.replicate n false
  | k + 1 => swG p (rdG p n k) n
theorem swG_len (p : List Edg) (g : List Bool) : ∀ x, (swG p g x).length = g.length
  | 0 => rfl
  | x + 1 => by
    rw [swG]
    split
    · rw [List.length_set, swG_len p g x]
    · exact swG_len p g x
theorem rdG_len (p : List Edg) (n : Nat) : ∀ k, (rdG p n k).length = n
  | 0 => List.length_replicate
  | k + 1 => by rw [rdG, swG_len, rdG_len p n k]
theorem set_getD (g : List Bool) (x y : Nat) : (g.set x true).getD y false = (g.getD y false || (decide (y = x) && decide (x < g.length))) := by
  rw [List.getD_eq_getElem?_getD, List.getD_eq_getElem?_getD, List.getElem?_set]
  by_cases h : x = y
  · subst h
    rw [if_pos rfl, decide_eq_true rfl, Bool.true_and]
    by_cases h2 : x < g.length
    · rw [if_pos h2, decide_eq_true h2, Bool.or_true]; rfl
    · rw [if_neg h2, decide_eq_false h2, Bool.or_false, List.getElem?_eq_none (by omega)]
  · rw [if_neg h, decide_eq_false (fun e => h e.symm), Bool.false_and, Bool.or_false]
theorem swG_stuck {n : Nat} {p : List Edg} {T : Nat → Prop} (ht : stuck n p T) {g : List Bool} (hg : ∀ x, T x → g.getD x false = false) : ∀ i x, T x → (swG p g i).getD x false = false
  | 0, x, hx => hg x hx
  | i + 1, x, hx => by
    have ih := swG_stuck ht hg i
    rw [swG]
    split
    · rename_i hf
      rw [set_getD, ih x hx, Bool.false_or, Bool.and_eq_false_iff]
      left
      rw [decide_eq_false_iff_not]
      rintro rfl
      obtain ⟨_, z, hz, hp⟩ := ht.2 x hx
      unfold isPr at hp
      rw [List.any_eq_true] at hp
      obtain ⟨e, he, h2⟩ := hp
      simp only [Bool.and_eq_true, decide_eq_true_eq] at h2
      unfold freeG at hf
      have h3 := List.all_eq_true.1 hf e he
      rw [h2.1, h2.2, Int.toNat_natCast, ih z hz] at h3
      simp at h3
    · exact ih x hx
theorem rdG_stuck {n : Nat} {p : List Edg} {T : Nat → Prop} (ht : stuck n p T) : ∀ k x, T x → (rdG p n k).getD x false = false
  | 0, x, _ => by
    rw [rdG, List.getD_eq_getElem?_getD, List.getElem?_replicate]
    split <;> rfl
  | k + 1, x, hx => swG_stuck ht (rdG_stuck ht k) n x hx
def cntG (g : List Bool) : Nat := g.countP fun b => b
theorem cntG_set (g : List Bool) : ∀ x, x < g.length → cntG (g.set x true) = cntG g + (if g.getD x false = true then 0 else 1) := by
  induction g with
  | nil => intro x h; simp at h
  | cons b g ih =>
    intro x h
    unfold cntG at ih ⊢
    cases x with
    | zero =>
      rw [List.set_cons_zero, List.countP_cons, List.countP_cons, List.getD_cons_zero]
      cases b <;> simp
    | succ x =>
      rw [List.set_cons_succ, List.countP_cons, List.countP_cons, List.getD_cons_succ, ih x (by simpa using h)]
      omega
theorem cntG_sw (p : List Edg) (g : List Bool) : ∀ i, i ≤ g.length → cntG g ≤ cntG (swG p g i) ∧ (cntG (swG p g i) = cntG g → swG p g i = g)
  | 0, _ => ⟨Nat.le_refl _, fun _ => rfl⟩
  | i + 1, h => by
    have ih := cntG_sw p g i (by omega)
    rw [swG]
    split
    · have hc := cntG_set (swG p g i) i (by rw [swG_len]; omega)
      rw [hc]
      refine ⟨by omega, fun e => ?_⟩
      by_cases hb : (swG p g i).getD i false = true
      · rw [if_pos hb] at e
        have e2 := ih.2 (by omega)
        rw [e2] at hb ⊢
        rw [List.getD_eq_getElem?_getD, List.getElem?_eq_getElem (by omega)] at hb
        have hb : g[i] = true := hb
        rw [← hb, List.set_getElem_self]
      · rw [if_neg hb] at e
        have := ih.1
        omega
    · exact ih
theorem cntG_le (g : List Bool) : cntG g ≤ g.length := List.countP_le_length
theorem cntG_full {g : List Bool} (h : cntG g = g.length) : ∀ x, x < g.length → g.getD x false = true := by
  intro x hx
  unfold cntG at h
  rw [List.getD_eq_getElem?_getD, List.getElem?_eq_getElem hx]
  exact List.countP_eq_length.1 h g[x] (List.getElem_mem hx)
/-- A round that changes nothing stays so; else each round takes one away. -/
theorem rd_cnt (p : List Edg) (n : Nat) : ∀ k, k ≤ cntG (rdG p n k) ∨ swG p (rdG p n k) n = rdG p n k
  | 0 => .inl (Nat.zero_le _)
  | k + 1 => by
    have hl := rdG_len p n k
    rcases rd_cnt p n k with h | h
    · have hc := cntG_sw p (rdG p n k) n (by omega)
      by_cases e : cntG (swG p (rdG p n k) n) = cntG (rdG p n k)
      · right
        have e2 := hc.2 e
        rw [rdG, e2]
        exact e2
      · left
        rw [rdG]
        omega
    · right
      rw [rdG, h]
      exact h
theorem sw_fix {p : List Edg} {g : List Bool} {n : Nat} (hn : g.length = n) (h : swG p g n = g) : ∀ i, i ≤ n → swG p g i = g := by
  intro i hi
  have h1 := (cntG_sw p g i (by omega)).1
  have hm : ∀ k, i ≤ k → k ≤ n → cntG (swG p g i) ≤ cntG (swG p g k) := by
    intro k
    induction k with
    | zero => intro a b; rw [Nat.le_zero.1 a]; exact Nat.le_refl _
    | succ k ih =>
      intro a b
      by_cases e : i = k + 1
      · subst e; exact Nat.le_refl _
      · have := ih (by omega) (by omega)
        rw [swG]
        split
        · rw [cntG_set _ _ (by rw [swG_len]; omega)]; omega
        · exact this
  have h2 := hm n hi (Nat.le_refl _)
  rw [h] at h2
  exact (cntG_sw p g i (by omega)).2 (by omega)
def allG (p : List Edg) (n : Nat) : Bool := (rdG p n n).all fun b => b
theorem allG_iff {n : Nat} {p : List Edg} (h : okP n p) : allG p n = false ↔ ∃ T, stuck n p T := by
  have hlen := rdG_len p n n
  unfold allG
  constructor
  · intro hf
    rcases rd_cnt p n n with hc | hc
    · have := cntG_le (rdG p n n)
      have hfull := cntG_full (g := rdG p n n) (by omega)
      exfalso
      have : ((rdG p n n).all fun b => b) = true := List.all_eq_true.2 fun b hb => by
        obtain ⟨i, hi, rfl⟩ := List.getElem_of_mem hb
        have := hfull i hi
        rwa [List.getD_eq_getElem?_getD, List.getElem?_eq_getElem hi] at this
      rw [this] at hf
      exact absurd hf (by simp)
    · have hfix := sw_fix hlen hc
      refine ⟨fun x => x < n ∧ (rdG p n n).getD x false = false, ?_, fun y hy => ⟨hy.1, ?_⟩⟩
      · apply Classical.byContradiction
        intro hno
        have : ((rdG p n n).all fun b => b) = true := List.all_eq_true.2 fun b hb => by
          obtain ⟨i, hi, rfl⟩ := List.getElem_of_mem hb
          cases hb2 : (rdG p n n)[i] with
          | true => rfl
          | false => exact absurd ⟨i, by omega, by rw [List.getD_eq_getElem?_getD, List.getElem?_eq_getElem hi, hb2]; rfl⟩ hno
        rw [this] at hf
        exact absurd hf (by simp)
      · have h1 := hfix (y + 1) (by omega)
        rw [swG, hfix y (by omega)] at h1
        have hnf : ¬ freeG p (rdG p n n) y = true := by
          intro hfr
          rw [if_pos hfr] at h1
          have := set_getD (rdG p n n) y y
          rw [h1, hy.2, decide_eq_true rfl, decide_eq_true (by omega)] at this
          exact absurd this (by simp)
        have hnf : freeG p (rdG p n n) y = false := by simpa using hnf
        unfold freeG at hnf
        rw [List.all_eq_false] at hnf
        obtain ⟨e, he, h2⟩ := hnf
        have h3 := h e he
        simp only [Bool.or_eq_true, Bool.not_eq_true', decide_eq_false_iff_not, not_or, Bool.not_eq_true, Decidable.not_not] at h2
        refine ⟨e.a.toNat, ⟨by omega, h2.2⟩, ?_⟩
        unfold isPr
        rw [List.any_eq_true]
        refine ⟨e, he, ?_⟩
        simp only [Bool.and_eq_true, decide_eq_true_eq]
        exact ⟨by omega, h2.1⟩
  · rintro ⟨T, ht⟩
    obtain ⟨x, hx⟩ := ht.1
    have h1 := (ht.2 x hx).1
    rw [List.all_eq_false]
    refine ⟨(rdG p n n)[x]'(by omega), List.getElem_mem _, ?_⟩
    have := rdG_stuck ht n x hx
    rw [List.getD_eq_getElem?_getD, List.getElem?_eq_getElem (by omega : x < (rdG p n n).length)] at this
    have this : (rdG p n n)[x]'(by omega) = false := this
    rw [this]
    simp
theorem acy_all {n : Nat} {p : List Edg} (h : okP n p) (hn : n ≤ 64) : decide (acyP (wrs n p) (2 ^ n - 1) = 0) = allG p n := by
  rw [Bool.eq_iff_iff, decide_eq_true_eq]
  constructor
  · intro e
    cases ha : allG p n with
    | true => rfl
    | false =>
      obtain ⟨T, ht⟩ := (allG_iff h).1 ha
      exact absurd e (acyP_stuck h hn ht _ fun x hx => by rw [Nat.testBit_two_pow_sub_one]; exact decide_eq_true (ht.2 x hx).1)
  · intro ha
    apply Classical.byContradiction
    intro hne
    have := (allG_iff h).2 (acyP_ne h hn _ (fun x hx => by rw [Nat.testBit_two_pow_sub_one] at hx; exact of_decide_eq_true hx) hne)
    rw [ha] at this
    exact absurd this (by simp)
/-- The promise's answer. -/
def prfOk (n : Int) (l p : List Edg) : Bool := validE n l && (prE n.toNat l p && allG p n.toNat)
end Go.Proofs.YtgipcnofonejcaaDoor.Ab

/- Chapter 28: preferences in the program. -/
open Go Go.Proofs Go.RowKit
namespace Go.Proofs.YtgipcnofonejcaaDoor.Ab
set_option linter.unusedSimpArgs false
set_option linter.unusedVariables false
set_option maxRecDepth 100000
theorem ndn_eq {a b : Nat} (ha : a < 18446744073709551616) (hb : b < 18446744073709551616) : ndn a b = andNot a b := by
  apply Nat.eq_of_testBit_eq
  intro i
  rw [andNot_test]
  exact wo_test ha hb i
theorem andNot_lt {a : Nat} (b : Nat) (ha : a < 18446744073709551616) : andNot a b < 18446744073709551616 := by
  have e : andNot a b &&& a = andNot a b := by
    apply Nat.eq_of_testBit_eq
    intro i
    rw [Nat.testBit_and, andNot_test]
    cases a.testBit i <;> cases b.testBit i <;> rfl
  rw [← e]
  exact Nat.lt_of_le_of_lt Nat.and_le_right ha
theorem bAn {a b : Nat} (ha : a < 18446744073709551616) (hb : b < 18446744073709551616) : IntKind.u64.wrap ((BitVec.ofInt IntKind.u64.bits (a : Int) &&& ~~~ BitVec.ofInt IntKind.u64.bits (b : Int)).toNat : Int) = ((andNot a b : Nat) : Int) := by
  rw [← ndn_eq ha hb]
  exact bNdn a b ha hb
theorem pow14p {n : Nat} (hn : n ≤ 14) : 2 ^ n ≤ 16384 := Nat.pow_le_pow_right (by omega) hn
theorem firstN_a {n : Nat} (hn : n ≤ 14) : AC Tryd.prog 146 [.d (.v (.int .i64 (n : Int)))] (.d (.v (.int .u64 (2 ^ n - 1 : Nat)))) := by
  have h1 := pow14p hn
  have h2 : 0 < 2 ^ n := Nat.two_pow_pos n
  have h0 : ((n : Int) < 0) = False := eq_false (by omega)
  have e1 : IntKind.u64.wrap ((1 : Int) * 2 ^ min n IntKind.u64.bits) = ((2 ^ n : Nat) : Int) := bShl n (by omega)
  have e2 : IntKind.u64.wrap (((2 ^ n : Nat) : Int) - 1) = ((2 ^ n - 1 : Nat) : Int) := by rw [IntKind.wrap_u64]; omega
  refine AC.intro Tryd.func146 rfl (by decide) (by simp [S.res, S.ress]) (by simp [S.os, S.oss]) (by simp [S.wfs, S.wf, dbS]) (by simp [Tryd.f146]) ?_; rw [Tryd.ntmps146]
  repeat (first | refine aq ?_ | refine ap (by rfl : apartB 0 _ _ = true) ?_ | refine ak ?_ | refine ab ?_ | refine al ?_ | ((first | refine ar ?_ | refine ad ty_mix (by kernel_rfl) ?_ | refine ac ?_ | refine ae ?_ | with_reducible refine Later.mk ?_); simp only [evD, evL, iteL, S.arg.eq_12, S.asL.eq_6, St.said, St.asked, evStep, evOp, evP, St.init, St.app, srcStep, kill, setMany, loadS, fieldS, buildS, toks, Fin, upd_app, Array.isEmpty, Nat.reduceLT, Nat.reduceAdd, Nat.reduceMul, Nat.reduceLeDiff, Nat.reduceSub, Nat.reduceEqDiff, reduceCtorEq, reduceIte, ↓Opt.is, ↓Opt.no, ↓Asks.yes, ↓Asks.no, tyL, encL, h0, e1, e2, asB]))
  refine Ab.ret ?_; simp only [evD, evL, iteL, S.arg.eq_12, S.asL.eq_6, St.said, St.asked, evStep, evOp, evP, St.init, St.app, srcStep, kill, setMany, loadS, fieldS, buildS, toks, Fin, upd_app, Array.isEmpty, Nat.reduceLT, Nat.reduceAdd, Nat.reduceMul, Nat.reduceLeDiff, Nat.reduceSub, Nat.reduceEqDiff, reduceCtorEq, reduceIte, ↓Opt.is, ↓Opt.no, ↓Asks.yes, ↓Asks.no, tyL, List.nodup_cons, encL, Tryd.f146]
theorem vertices_a {G : List Nat} (hn : G.length ≤ 14) : AC Tryd.prog 137 [.d (.sl (G.map encU))] (.d (.v (.int .u64 (2 ^ G.length - 1 : Nat)))) := by
  have hc := firstN_a hn
  refine AC.intro Tryd.func137 rfl (by decide) (by simp [S.res, S.ress]) (by simp [S.os, S.oss]) (by simp [S.wfs, S.wf, dbS]) (by simp [Tryd.f137]) ?_; rw [Tryd.ntmps137]
  repeat (first | refine aq ?_ | refine ap (by rfl : apartB 0 _ _ = true) ?_ | refine ak ?_ | refine ab ?_ | refine al ?_ | ((first | refine ar ?_ | refine ad ty_mix (by kernel_rfl) ?_ | refine ac ?_ | refine ae ?_ | with_reducible refine Later.mk ?_); simp only [evD, evL, iteL, S.arg.eq_12, S.asL.eq_6, St.said, St.asked, evStep, evOp, evP, St.init, St.app, srcStep, kill, setMany, loadS, fieldS, buildS, toks, Fin, upd_app, Array.isEmpty, Nat.reduceLT, Nat.reduceAdd, Nat.reduceMul, Nat.reduceLeDiff, Nat.reduceSub, Nat.reduceEqDiff, reduceCtorEq, reduceIte, ↓Opt.is, ↓Opt.no, ↓Asks.yes, ↓Asks.no, tyL, encL, List.length_map, asB]))
  refine ⟨_, hc, ?_⟩; (repeat (first | refine ap (by rfl : apartB 0 _ _ = true) ?_ | refine ap (by simp [osL, D.flat]) ?_)); repeat (first | refine aq ?_ | refine ap (by rfl : apartB 0 _ _ = true) ?_ | refine ak ?_ | refine ab ?_ | refine al ?_ | ((first | refine ar ?_ | refine ad ty_mix (by kernel_rfl) ?_ | refine ac ?_ | refine ae ?_ | with_reducible refine Later.mk ?_); simp only [evD, evL, iteL, S.arg.eq_12, S.asL.eq_6, St.said, St.asked, evStep, evOp, evP, St.init, St.app, srcStep, kill, setMany, loadS, fieldS, buildS, toks, Fin, upd_app, Array.isEmpty, Nat.reduceLT, Nat.reduceAdd, Nat.reduceMul, Nat.reduceLeDiff, Nat.reduceSub, Nat.reduceEqDiff, reduceCtorEq, reduceIte, ↓Opt.is, ↓Opt.no, ↓Asks.yes, ↓Asks.no, tyL, encL, asB]))
  refine Ab.ret ?_; simp only [evD, evL, iteL, S.arg.eq_12, S.asL.eq_6, St.said, St.asked, evStep, evOp, evP, St.init, St.app, srcStep, kill, setMany, loadS, fieldS, buildS, toks, Fin, upd_app, Array.isEmpty, Nat.reduceLT, Nat.reduceAdd, Nat.reduceMul, Nat.reduceLeDiff, Nat.reduceSub, Nat.reduceEqDiff, reduceCtorEq, reduceIte, ↓Opt.is, ↓Opt.no, ↓Asks.yes, ↓Asks.no, tyL, List.nodup_cons, encL, Tryd.f137]
theorem hasEdge_a {n : Nat} {l : List Edg} (hn : n ≤ 64) (ho : okN n l) (a b : Int) : AC Tryd.prog 134 [.d (.sl ((grf n l).map encU)), .d (.v (.int .i64 a)), .d (.v (.int .i64 b))] (.d (.v (.bool (hasPE n l a b)))) := by
  have hc1 := isIndex_a a n
  have hc2 := isIndex_a b n
  have hlen := grf_len n l
  unfold hasPE
  rcases Bool.eq_false_or_eq_true (decide (0 ≤ a) && decide (a < (n : Int))) with h1 | h1
  · rcases Bool.eq_false_or_eq_true (decide (0 ≤ b) && decide (b < (n : Int))) with h2 | h2
    · have h3 := h1
      have h4 := h2
      rw [Bool.and_eq_true, decide_eq_true_eq, decide_eq_true_eq] at h3 h4
      obtain ⟨p, rfl⟩ : ∃ p : Nat, a = (p : Int) := ⟨a.toNat, by omega⟩
      obtain ⟨q, rfl⟩ : ∃ q : Nat, b = (q : Int) := ⟨b.toNat, by omega⟩
      have hg := grf_test ho p q
      have hlt := grf_lt ho hn p
      have hp : p < (grf n l).length := by omega
      rw [h1] at hc1 ⊢
      rw [h2] at hc2 ⊢
      rw [Int.toNat_natCast, Int.toNat_natCast, ← hg]
      generalize grf n l = G at *
      subst hlen
      have hc3 := bits_has_a (G.getD p 0) q hlt (by omega)
      have hgp := getG hp
      have z3 : ∀ x : Nat, (0 ≤ (x : Int)) = True := fun x => eq_true (by omega)
      have z1 : (p < G.length) = True := eq_true hp
      refine AC.intro Tryd.func134 rfl (by decide) (by simp [S.res, S.ress]) (by simp [S.os, S.oss]) (by simp [S.wfs, S.wf, dbS]) (by simp [Tryd.f134]) ?_; rw [Tryd.ntmps134]
      repeat (first | refine aq ?_ | refine ap (by rfl : apartB 0 _ _ = true) ?_ | refine ak ?_ | refine ab ?_ | refine al ?_ | ((first | refine ar ?_ | refine ad ty_mix (by kernel_rfl) ?_ | refine ac ?_ | refine ae ?_ | with_reducible refine Later.mk ?_); simp only [evD, evL, iteL, S.arg.eq_12, S.asL.eq_6, St.said, St.asked, evStep, evOp, evP, St.init, St.app, srcStep, kill, setMany, loadS, fieldS, buildS, toks, Fin, upd_app, Array.isEmpty, Nat.reduceLT, Nat.reduceAdd, Nat.reduceMul, Nat.reduceLeDiff, Nat.reduceSub, Nat.reduceEqDiff, reduceCtorEq, reduceIte, ↓Opt.is, ↓Opt.no, ↓Asks.yes, ↓Asks.no, tyL, encL, List.length_map, asB]))
      refine ⟨_, hc1, ?_⟩; (repeat (first | refine ap (by rfl : apartB 0 _ _ = true) ?_ | refine ap (by simp [osL, D.flat]) ?_)); repeat (first | refine aq ?_ | refine ap (by rfl : apartB 0 _ _ = true) ?_ | refine ak ?_ | refine ab ?_ | refine al ?_ | ((first | refine ar ?_ | refine ad ty_mix (by kernel_rfl) ?_ | refine ac ?_ | refine ae ?_ | with_reducible refine Later.mk ?_); simp only [evD, evL, iteL, S.arg.eq_12, S.asL.eq_6, St.said, St.asked, evStep, evOp, evP, St.init, St.app, srcStep, kill, setMany, loadS, fieldS, buildS, toks, Fin, upd_app, Array.isEmpty, Nat.reduceLT, Nat.reduceAdd, Nat.reduceMul, Nat.reduceLeDiff, Nat.reduceSub, Nat.reduceEqDiff, reduceCtorEq, reduceIte, ↓Opt.is, ↓Opt.no, ↓Asks.yes, ↓Asks.no, tyL, encL, List.length_map, asB]))
      refine ⟨_, hc2, ?_⟩; (repeat (first | refine ap (by rfl : apartB 0 _ _ = true) ?_ | refine ap (by simp [osL, D.flat]) ?_)); repeat (first | refine aq ?_ | refine ap (by rfl : apartB 0 _ _ = true) ?_ | refine ak ?_ | refine ab ?_ | refine al ?_ | ((first | refine ar ?_ | refine ad ty_mix (by kernel_rfl) ?_ | refine ac ?_ | refine ae ?_ | with_reducible refine Later.mk ?_); simp only [evD, evL, iteL, S.arg.eq_12, S.asL.eq_6, St.said, St.asked, evStep, evOp, evP, St.init, St.app, srcStep, kill, setMany, loadS, fieldS, buildS, toks, Fin, upd_app, Array.isEmpty, Nat.reduceLT, Nat.reduceAdd, Nat.reduceMul, Nat.reduceLeDiff, Nat.reduceSub, Nat.reduceEqDiff, reduceCtorEq, reduceIte, ↓Opt.is, ↓Opt.no, ↓Asks.yes, ↓Asks.no, tyL, encL, List.length_map, hgp, z1, z3, Int.toNat_natCast, if_true, asB]))
      refine ⟨_, hc3, ?_⟩; (repeat (first | refine ap (by rfl : apartB 0 _ _ = true) ?_ | refine ap (by simp [osL, D.flat]) ?_)); repeat (first | refine aq ?_ | refine ap (by rfl : apartB 0 _ _ = true) ?_ | refine ak ?_ | refine ab ?_ | refine al ?_ | ((first | refine ar ?_ | refine ad ty_mix (by kernel_rfl) ?_ | refine ac ?_ | refine ae ?_ | with_reducible refine Later.mk ?_); simp only [evD, evL, iteL, S.arg.eq_12, S.asL.eq_6, St.said, St.asked, evStep, evOp, evP, St.init, St.app, srcStep, kill, setMany, loadS, fieldS, buildS, toks, Fin, upd_app, Array.isEmpty, Nat.reduceLT, Nat.reduceAdd, Nat.reduceMul, Nat.reduceLeDiff, Nat.reduceSub, Nat.reduceEqDiff, reduceCtorEq, reduceIte, ↓Opt.is, ↓Opt.no, ↓Asks.yes, ↓Asks.no, tyL, encL, asB]))
      refine Ab.ret ?_; simp only [evD, evL, iteL, S.arg.eq_12, S.asL.eq_6, St.said, St.asked, evStep, evOp, evP, St.init, St.app, srcStep, kill, setMany, loadS, fieldS, buildS, toks, Fin, upd_app, Array.isEmpty, Nat.reduceLT, Nat.reduceAdd, Nat.reduceMul, Nat.reduceLeDiff, Nat.reduceSub, Nat.reduceEqDiff, reduceCtorEq, reduceIte, ↓Opt.is, ↓Opt.no, ↓Asks.yes, ↓Asks.no, tyL, List.nodup_cons, encL, Tryd.f134]
    · rw [h1] at hc1 ⊢
      rw [h2] at hc2 ⊢
      generalize grf n l = G at *
      subst hlen
      refine AC.intro Tryd.func134 rfl (by decide) (by simp [S.res, S.ress]) (by simp [S.os, S.oss]) (by simp [S.wfs, S.wf, dbS]) (by simp [Tryd.f134]) ?_; rw [Tryd.ntmps134]
      repeat (first | refine aq ?_ | refine ap (by rfl : apartB 0 _ _ = true) ?_ | refine ak ?_ | refine ab ?_ | refine al ?_ | ((first | refine ar ?_ | refine ad ty_mix (by kernel_rfl) ?_ | refine ac ?_ | refine ae ?_ | with_reducible refine Later.mk ?_); simp only [evD, evL, iteL, S.arg.eq_12, S.asL.eq_6, St.said, St.asked, evStep, evOp, evP, St.init, St.app, srcStep, kill, setMany, loadS, fieldS, buildS, toks, Fin, upd_app, Array.isEmpty, Nat.reduceLT, Nat.reduceAdd, Nat.reduceMul, Nat.reduceLeDiff, Nat.reduceSub, Nat.reduceEqDiff, reduceCtorEq, reduceIte, ↓Opt.is, ↓Opt.no, ↓Asks.yes, ↓Asks.no, tyL, encL, List.length_map, asB]))
      refine ⟨_, hc1, ?_⟩; (repeat (first | refine ap (by rfl : apartB 0 _ _ = true) ?_ | refine ap (by simp [osL, D.flat]) ?_)); repeat (first | refine aq ?_ | refine ap (by rfl : apartB 0 _ _ = true) ?_ | refine ak ?_ | refine ab ?_ | refine al ?_ | ((first | refine ar ?_ | refine ad ty_mix (by kernel_rfl) ?_ | refine ac ?_ | refine ae ?_ | with_reducible refine Later.mk ?_); simp only [evD, evL, iteL, S.arg.eq_12, S.asL.eq_6, St.said, St.asked, evStep, evOp, evP, St.init, St.app, srcStep, kill, setMany, loadS, fieldS, buildS, toks, Fin, upd_app, Array.isEmpty, Nat.reduceLT, Nat.reduceAdd, Nat.reduceMul, Nat.reduceLeDiff, Nat.reduceSub, Nat.reduceEqDiff, reduceCtorEq, reduceIte, ↓Opt.is, ↓Opt.no, ↓Asks.yes, ↓Asks.no, tyL, encL, List.length_map, asB]))
      refine ⟨_, hc2, ?_⟩; (repeat (first | refine ap (by rfl : apartB 0 _ _ = true) ?_ | refine ap (by simp [osL, D.flat]) ?_)); repeat (first | refine aq ?_ | refine ap (by rfl : apartB 0 _ _ = true) ?_ | refine ak ?_ | refine ab ?_ | refine al ?_ | ((first | refine ar ?_ | refine ad ty_mix (by kernel_rfl) ?_ | refine ac ?_ | refine ae ?_ | with_reducible refine Later.mk ?_); simp only [evD, evL, iteL, S.arg.eq_12, S.asL.eq_6, St.said, St.asked, evStep, evOp, evP, St.init, St.app, srcStep, kill, setMany, loadS, fieldS, buildS, toks, Fin, upd_app, Array.isEmpty, Nat.reduceLT, Nat.reduceAdd, Nat.reduceMul, Nat.reduceLeDiff, Nat.reduceSub, Nat.reduceEqDiff, reduceCtorEq, reduceIte, ↓Opt.is, ↓Opt.no, ↓Asks.yes, ↓Asks.no, tyL, encL, List.length_map, asB]))
      refine Ab.ret ?_; simp only [evD, evL, iteL, S.arg.eq_12, S.asL.eq_6, St.said, St.asked, evStep, evOp, evP, St.init, St.app, srcStep, kill, setMany, loadS, fieldS, buildS, toks, Fin, upd_app, Array.isEmpty, Nat.reduceLT, Nat.reduceAdd, Nat.reduceMul, Nat.reduceLeDiff, Nat.reduceSub, Nat.reduceEqDiff, reduceCtorEq, reduceIte, ↓Opt.is, ↓Opt.no, ↓Asks.yes, ↓Asks.no, tyL, List.nodup_cons, encL, Tryd.f134]
  · rw [h1] at hc1 ⊢
    generalize grf n l = G at *
    subst hlen
    refine AC.intro Tryd.func134 rfl (by decide) (by simp [S.res, S.ress]) (by simp [S.os, S.oss]) (by simp [S.wfs, S.wf, dbS]) (by simp [Tryd.f134]) ?_; rw [Tryd.ntmps134]
    repeat (first | refine aq ?_ | refine ap (by rfl : apartB 0 _ _ = true) ?_ | refine ak ?_ | refine ab ?_ | refine al ?_ | ((first | refine ar ?_ | refine ad ty_mix (by kernel_rfl) ?_ | refine ac ?_ | refine ae ?_ | with_reducible refine Later.mk ?_); simp only [evD, evL, iteL, S.arg.eq_12, S.asL.eq_6, St.said, St.asked, evStep, evOp, evP, St.init, St.app, srcStep, kill, setMany, loadS, fieldS, buildS, toks, Fin, upd_app, Array.isEmpty, Nat.reduceLT, Nat.reduceAdd, Nat.reduceMul, Nat.reduceLeDiff, Nat.reduceSub, Nat.reduceEqDiff, reduceCtorEq, reduceIte, ↓Opt.is, ↓Opt.no, ↓Asks.yes, ↓Asks.no, tyL, encL, List.length_map, asB]))
    refine ⟨_, hc1, ?_⟩; (repeat (first | refine ap (by rfl : apartB 0 _ _ = true) ?_ | refine ap (by simp [osL, D.flat]) ?_)); repeat (first | refine aq ?_ | refine ap (by rfl : apartB 0 _ _ = true) ?_ | refine ak ?_ | refine ab ?_ | refine al ?_ | ((first | refine ar ?_ | refine ad ty_mix (by kernel_rfl) ?_ | refine ac ?_ | refine ae ?_ | with_reducible refine Later.mk ?_); simp only [evD, evL, iteL, S.arg.eq_12, S.asL.eq_6, St.said, St.asked, evStep, evOp, evP, St.init, St.app, srcStep, kill, setMany, loadS, fieldS, buildS, toks, Fin, upd_app, Array.isEmpty, Nat.reduceLT, Nat.reduceAdd, Nat.reduceMul, Nat.reduceLeDiff, Nat.reduceSub, Nat.reduceEqDiff, reduceCtorEq, reduceIte, ↓Opt.is, ↓Opt.no, ↓Asks.yes, ↓Asks.no, tyL, encL, List.length_map, asB]))
    refine Ab.ret ?_; simp only [evD, evL, iteL, S.arg.eq_12, S.asL.eq_6, St.said, St.asked, evStep, evOp, evP, St.init, St.app, srcStep, kill, setMany, loadS, fieldS, buildS, toks, Fin, upd_app, Array.isEmpty, Nat.reduceLT, Nat.reduceAdd, Nat.reduceMul, Nat.reduceLeDiff, Nat.reduceSub, Nat.reduceEqDiff, reduceCtorEq, reduceIte, ↓Opt.is, ↓Opt.no, ↓Asks.yes, ↓Asks.no, tyL, List.nodup_cons, encL, Tryd.f134]
theorem undP_snoc (W : List Nat) (B0 : Nat) (l : List Int) {i : Nat} (h : i < l.length) : undP W B0 (l.take (i + 1)).reverse = andNot (undP W B0 (l.take i).reverse) (W.getD l[i].toNat 0) := by
  rw [List.take_succ_eq_append_getElem h, List.reverse_append]
  rfl
theorem undP_lt (W : List Nat) {B0 : Nat} (h : B0 < 18446744073709551616) : ∀ l : List Int, undP W B0 l < 18446744073709551616
  | [] => h
  | v :: l => andNot_lt _ (undP_lt W h l)
theorem undominated_a {n : Nat} {p : List Edg} {B0 : Nat} (hn : n ≤ 64) (hp : okP n p) (hS : B0 < 18446744073709551616) (hin : ∀ x, B0.testBit x = true → x < n) (gr : List Nat) : AC Tryd.prog 144 [.a [.d (.sl (gr.map encU)), .d (.sl ((wrs n p).map encU))], .d (.v (.int .u64 (B0 : Int)))] (.d (.v (.int .u64 (undS (wrs n p) B0 : Int)))) := by
  have hc := elements_a B0 hS
  have hlen := wrs_len n p
  have hlt := wrs_lt hp hn
  have hel := fun x => elems_mem (n := 64) (b := B0) (x := x)
  have hll := elems_len 64 B0
  unfold undS
  generalize wrs n p = W at *
  refine AC.intro Tryd.func144 rfl (by decide) (by simp [S.res, S.ress]) (by simp [S.os, S.oss]) (by simp [S.wfs, S.wf, dbS]) (by simp [Tryd.f144]) ?_; rw [Tryd.ntmps144]
  repeat (first | refine aq ?_ | refine ap (by rfl : apartB 0 _ _ = true) ?_ | refine ak ?_ | refine ab ?_ | refine al ?_ | ((first | refine ar ?_ | refine ad ty_mix (by kernel_rfl) ?_ | refine ac ?_ | refine ae ?_ | with_reducible refine Later.mk ?_); simp only [evD, evL, iteL, S.arg.eq_12, S.asL.eq_6, St.said, St.asked, evStep, evOp, evP, St.init, St.app, srcStep, kill, setMany, loadS, fieldS, buildS, toks, Fin, upd_app, Array.isEmpty, Nat.reduceLT, Nat.reduceAdd, Nat.reduceMul, Nat.reduceLeDiff, Nat.reduceSub, Nat.reduceEqDiff, reduceCtorEq, reduceIte, ↓Opt.is, ↓Opt.no, ↓Asks.yes, ↓Asks.no, tyL, encL, asB]))
  refine ⟨_, hc, ?_⟩; (repeat (first | refine ap (by rfl : apartB 0 _ _ = true) ?_ | refine ap (by simp [osL, D.flat]) ?_)); repeat (first | refine aq ?_ | refine ap (by rfl : apartB 0 _ _ = true) ?_ | refine ak ?_ | refine ab ?_ | refine al ?_ | ((first | refine ar ?_ | refine ad ty_mix (by kernel_rfl) ?_ | refine ac ?_ | refine ae ?_ | with_reducible refine Later.mk ?_); simp only [evD, evL, iteL, S.arg.eq_12, S.asL.eq_6, St.said, St.asked, evStep, evOp, evP, St.init, St.app, srcStep, kill, setMany, loadS, fieldS, buildS, toks, Fin, upd_app, Array.isEmpty, Nat.reduceLT, Nat.reduceAdd, Nat.reduceMul, Nat.reduceLeDiff, Nat.reduceSub, Nat.reduceEqDiff, reduceCtorEq, reduceIte, ↓Opt.is, ↓Opt.no, ↓Asks.yes, ↓Asks.no, tyL, encL, asB]))
  generalize elemsN 64 B0 = E at *
  refine Ab.loopI E.length (fun _ => True) (fun i => mkS 25 [(2, .p 0 0), (5, .d (.v (.int .u64 (undP W B0 (E.take i).reverse : Int)))), (10, .o 80 (.sl (List.map encI E))), (11, .d (.v (.int .i64 (E.length : Int)))), (12, .d (.v (.int .i64 (i : Int))))] [(0, .box [.d (.sl (List.map encU gr)), .d (.sl (List.map encU W))]), (80, .tok (.sl (List.map encI E)))] 128) trivial ?_ ?_
  · ((first | refine Le.mk rfl ?_ ?_ | refine LeTo.mk rfl ?_ ?_) <;> simp only [evD, evL, iteL, S.arg.eq_12, S.asL.eq_6, St.said, St.asked, evStep, evOp, evP, St.init, St.app, srcStep, kill, setMany, loadS, fieldS, buildS, toks, Fin, upd_app, Array.isEmpty, Nat.reduceLT, Nat.reduceAdd, Nat.reduceMul, Nat.reduceLeDiff, Nat.reduceSub, Nat.reduceEqDiff, reduceCtorEq, reduceIte, ↓Opt.is, ↓Opt.no, ↓Asks.yes, ↓Asks.no, tyL, encL, leL, leD, ne_eq, List.take_zero, List.reverse_nil, undP])
  intro i hi _
  repeat (first | refine aq ?_ | refine ap (by rfl : apartB 0 _ _ = true) ?_ | refine ak ?_ | refine ab ?_ | refine al ?_ | ((first | refine ar ?_ | refine ad ty_mix (by kernel_rfl) ?_ | refine ac ?_ | refine ae ?_ | with_reducible refine Later.mk ?_); simp only [evD, evL, iteL, S.arg.eq_12, S.asL.eq_6, St.said, St.asked, evStep, evOp, evP, St.init, St.app, srcStep, kill, setMany, loadS, fieldS, buildS, toks, Fin, upd_app, Array.isEmpty, Nat.reduceLT, Nat.reduceAdd, Nat.reduceMul, Nat.reduceLeDiff, Nat.reduceSub, Nat.reduceEqDiff, reduceCtorEq, reduceIte, ↓Opt.is, ↓Opt.no, ↓Asks.yes, ↓Asks.no, tyL, encL, mkS, updl, asB]))
  refine ⟨fun h => ?_, fun h => ?_⟩
  · have h : i < E.length := by simpa using h
    have hw := wrapN h (by omega)
    have hst := undP_snoc W B0 E h
    have hult := undP_lt W hS (E.take i).reverse
    obtain ⟨q, h1, h2, h3⟩ := (hel E[i]).1 (List.getElem_mem h)
    have hqn := hin q h2
    generalize undP W B0 (E.take i).reverse = U at *
    rw [h3, Int.toNat_natCast] at hst
    have e1 := bAn hult (hlt q)
    have hgq := getG (G := W) (i := q) (by omega)
    have z3 : ∀ x : Nat, (0 ≤ (x : Int)) = True := fun x => eq_true (by omega)
    have z1 : (q < W.length) = True := eq_true (by omega)
    repeat (first | refine aq ?_ | refine ap (by rfl : apartB 0 _ _ = true) ?_ | refine ak ?_ | refine ab ?_ | refine al ?_ | ((first | refine ar ?_ | refine ad ty_mix (by kernel_rfl) ?_ | refine ac ?_ | refine ae ?_ | with_reducible refine Later.mk ?_); simp only [evD, evL, iteL, S.arg.eq_12, S.asL.eq_6, St.said, St.asked, evStep, evOp, evP, St.init, St.app, srcStep, kill, setMany, loadS, fieldS, buildS, toks, Fin, upd_app, Array.isEmpty, Nat.reduceLT, Nat.reduceAdd, Nat.reduceMul, Nat.reduceLeDiff, Nat.reduceSub, Nat.reduceEqDiff, reduceCtorEq, reduceIte, ↓Opt.is, ↓Opt.no, ↓Asks.yes, ↓Asks.no, tyL, encL, getI h, h3, hgq, z1, z3, Int.toNat_natCast, if_true, List.length_map, e1, hw, asB]))
    refine ⟨h, ?_⟩
    ((first | refine Le.mk rfl ?_ ?_ | refine LeTo.mk rfl ?_ ?_) <;> simp only [evD, evL, iteL, S.arg.eq_12, S.asL.eq_6, St.said, St.asked, evStep, evOp, evP, St.init, St.app, srcStep, kill, setMany, loadS, fieldS, buildS, toks, Fin, upd_app, Array.isEmpty, Nat.reduceLT, Nat.reduceAdd, Nat.reduceMul, Nat.reduceLeDiff, Nat.reduceSub, Nat.reduceEqDiff, reduceCtorEq, reduceIte, ↓Opt.is, ↓Opt.no, ↓Asks.yes, ↓Asks.no, tyL, encL, leL, leD, ne_eq, hst])
  · have h : i = E.length := by have := of_decide_eq_false h; omega
    subst h
    repeat (first | refine aq ?_ | refine ap (by rfl : apartB 0 _ _ = true) ?_ | refine ak ?_ | refine ab ?_ | refine al ?_ | ((first | refine ar ?_ | refine ad ty_mix (by kernel_rfl) ?_ | refine ac ?_ | refine ae ?_ | with_reducible refine Later.mk ?_); simp only [evD, evL, iteL, S.arg.eq_12, S.asL.eq_6, St.said, St.asked, evStep, evOp, evP, St.init, St.app, srcStep, kill, setMany, loadS, fieldS, buildS, toks, Fin, upd_app, Array.isEmpty, Nat.reduceLT, Nat.reduceAdd, Nat.reduceMul, Nat.reduceLeDiff, Nat.reduceSub, Nat.reduceEqDiff, reduceCtorEq, reduceIte, ↓Opt.is, ↓Opt.no, ↓Asks.yes, ↓Asks.no, tyL, encL, asB]))
    refine Ab.ret ?_; simp only [evD, evL, iteL, S.arg.eq_12, S.asL.eq_6, St.said, St.asked, evStep, evOp, evP, St.init, St.app, srcStep, kill, setMany, loadS, fieldS, buildS, toks, Fin, upd_app, Array.isEmpty, Nat.reduceLT, Nat.reduceAdd, Nat.reduceMul, Nat.reduceLeDiff, Nat.reduceSub, Nat.reduceEqDiff, reduceCtorEq, reduceIte, ↓Opt.is, ↓Opt.no, ↓Asks.yes, ↓Asks.no, tyL, List.nodup_cons, encL, Tryd.f144, List.take_length]
theorem isAcyclic_a {n : Nat} {p : List Edg} (hn : n ≤ 14) (hp : okP n p) {gr : List Nat} (hgr : gr.length = n) : AC Tryd.prog 135 [.a [.d (.sl (gr.map encU)), .d (.sl ((wrs n p).map encU))]] (.d (.v (.bool (decide (acyP (wrs n p) (2 ^ n - 1) = 0))))) := by
  subst hgr
  have hc := vertices_a hn
  refine AC.intro Tryd.func135 rfl (by decide) (by simp [S.res, S.ress]) (by simp [S.os, S.oss]) (by simp [S.wfs, S.wf, dbS]) (by simp [Tryd.f135]) ?_; rw [Tryd.ntmps135]
  repeat (first | refine aq ?_ | refine ap (by rfl : apartB 0 _ _ = true) ?_ | refine ak ?_ | refine ab ?_ | refine al ?_ | ((first | refine ar ?_ | refine ad ty_mix (by kernel_rfl) ?_ | refine ac ?_ | refine ae ?_ | with_reducible refine Later.mk ?_); simp only [evD, evL, iteL, S.arg.eq_12, S.asL.eq_6, St.said, St.asked, evStep, evOp, evP, St.init, St.app, srcStep, kill, setMany, loadS, fieldS, buildS, toks, Fin, upd_app, Array.isEmpty, Nat.reduceLT, Nat.reduceAdd, Nat.reduceMul, Nat.reduceLeDiff, Nat.reduceSub, Nat.reduceEqDiff, reduceCtorEq, reduceIte, ↓Opt.is, ↓Opt.no, ↓Asks.yes, ↓Asks.no, tyL, encL, asB]))
  refine ⟨_, hc, ?_⟩; (repeat (first | refine ap (by rfl : apartB 0 _ _ = true) ?_ | refine ap (by simp [osL, D.flat]) ?_)); repeat (first | refine aq ?_ | refine ap (by rfl : apartB 0 _ _ = true) ?_ | refine ak ?_ | refine ab ?_ | refine al ?_ | ((first | refine ar ?_ | refine ad ty_mix (by kernel_rfl) ?_ | refine ac ?_ | refine ae ?_ | with_reducible refine Later.mk ?_); simp only [evD, evL, iteL, S.arg.eq_12, S.asL.eq_6, St.said, St.asked, evStep, evOp, evP, St.init, St.app, srcStep, kill, setMany, loadS, fieldS, buildS, toks, Fin, upd_app, Array.isEmpty, Nat.reduceLT, Nat.reduceAdd, Nat.reduceMul, Nat.reduceLeDiff, Nat.reduceSub, Nat.reduceEqDiff, reduceCtorEq, reduceIte, ↓Opt.is, ↓Opt.no, ↓Asks.yes, ↓Asks.no, tyL, encL, asB]))
  have hlen := wrs_len gr.length p
  have h14 := pow14p hn
  refine Ab.loopG (2 ^ gr.length - 1) (fun x => x) (fun x => x < 18446744073709551616 ∧ (∀ y, x.testBit y = true → y < gr.length) ∧ acyP (wrs gr.length p) x = acyP (wrs gr.length p) (2 ^ gr.length - 1)) (fun x => mkS 18 [(1, .p 0 0), (3, .d (.v (.int .u64 (x : Int))))] [(0, .box [.d (.sl (List.map encU gr)), .d (.sl (List.map encU (wrs gr.length p)))])] 96) ⟨by omega, fun y hy => by rw [Nat.testBit_two_pow_sub_one] at hy; exact of_decide_eq_true hy, rfl⟩ ?_ ?_
  · ((first | refine Le.mk rfl ?_ ?_ | refine LeTo.mk rfl ?_ ?_) <;> simp only [evD, evL, iteL, S.arg.eq_12, S.asL.eq_6, St.said, St.asked, evStep, evOp, evP, St.init, St.app, srcStep, kill, setMany, loadS, fieldS, buildS, toks, Fin, upd_app, Array.isEmpty, Nat.reduceLT, Nat.reduceAdd, Nat.reduceMul, Nat.reduceLeDiff, Nat.reduceSub, Nat.reduceEqDiff, reduceCtorEq, reduceIte, ↓Opt.is, ↓Opt.no, ↓Asks.yes, ↓Asks.no, tyL, encL, leL, leD, ne_eq])
  intro x ⟨hx, hin, hac⟩
  have hc2 := undominated_a (n := gr.length) (p := p) (by omega) hp hx hin gr
  have hult : undS (wrs gr.length p) x < 18446744073709551616 := undP_lt _ hx _
  have e1 := bAn hx hult
  have e2 := ne0N (undS (wrs gr.length p) x)
  have e3 := eq0N x
  rcases Decidable.em (undS (wrs gr.length p) x = 0) with hu | hu
  · have hac2 : x = acyP (wrs gr.length p) (2 ^ gr.length - 1) := by rw [← hac, acyP, dif_pos hu]
    rw [hu, decide_eq_false (by simp)] at e2
    rw [hu] at hc2
    repeat (first | refine aq ?_ | refine ap (by rfl : apartB 0 _ _ = true) ?_ | refine ak ?_ | refine ab ?_ | refine al ?_ | ((first | refine ar ?_ | refine ad ty_mix (by kernel_rfl) ?_ | refine ac ?_ | refine ae ?_ | with_reducible refine Later.mk ?_); simp only [evD, evL, iteL, S.arg.eq_12, S.asL.eq_6, St.said, St.asked, evStep, evOp, evP, St.init, St.app, srcStep, kill, setMany, loadS, fieldS, buildS, toks, Fin, upd_app, Array.isEmpty, Nat.reduceLT, Nat.reduceAdd, Nat.reduceMul, Nat.reduceLeDiff, Nat.reduceSub, Nat.reduceEqDiff, reduceCtorEq, reduceIte, ↓Opt.is, ↓Opt.no, ↓Asks.yes, ↓Asks.no, tyL, encL, mkS, updl, asB]))
    refine ⟨_, hc2, ?_⟩; (repeat (first | refine ap (by rfl : apartB 0 _ _ = true) ?_ | refine ap (by simp [osL, D.flat]) ?_)); repeat (first | refine aq ?_ | refine ap (by rfl : apartB 0 _ _ = true) ?_ | refine ak ?_ | refine ab ?_ | refine al ?_ | ((first | refine ar ?_ | refine ad ty_mix (by kernel_rfl) ?_ | refine ac ?_ | refine ae ?_ | with_reducible refine Later.mk ?_); simp only [evD, evL, iteL, S.arg.eq_12, S.asL.eq_6, St.said, St.asked, evStep, evOp, evP, St.init, St.app, srcStep, kill, setMany, loadS, fieldS, buildS, toks, Fin, upd_app, Array.isEmpty, Nat.reduceLT, Nat.reduceAdd, Nat.reduceMul, Nat.reduceLeDiff, Nat.reduceSub, Nat.reduceEqDiff, reduceCtorEq, reduceIte, ↓Opt.is, ↓Opt.no, ↓Asks.yes, ↓Asks.no, tyL, encL, e2, asB]))
    repeat (first | refine aq ?_ | refine ap (by rfl : apartB 0 _ _ = true) ?_ | refine ak ?_ | refine ab ?_ | refine al ?_ | ((first | refine ar ?_ | refine ad ty_mix (by kernel_rfl) ?_ | refine ac ?_ | refine ae ?_ | with_reducible refine Later.mk ?_); simp only [evD, evL, iteL, S.arg.eq_12, S.asL.eq_6, St.said, St.asked, evStep, evOp, evP, St.init, St.app, srcStep, kill, setMany, loadS, fieldS, buildS, toks, Fin, upd_app, Array.isEmpty, Nat.reduceLT, Nat.reduceAdd, Nat.reduceMul, Nat.reduceLeDiff, Nat.reduceSub, Nat.reduceEqDiff, reduceCtorEq, reduceIte, ↓Opt.is, ↓Opt.no, ↓Asks.yes, ↓Asks.no, tyL, encL, e3, asB]))
    refine Ab.ret ?_; simp only [evD, evL, iteL, S.arg.eq_12, S.asL.eq_6, St.said, St.asked, evStep, evOp, evP, St.init, St.app, srcStep, kill, setMany, loadS, fieldS, buildS, toks, Fin, upd_app, Array.isEmpty, Nat.reduceLT, Nat.reduceAdd, Nat.reduceMul, Nat.reduceLeDiff, Nat.reduceSub, Nat.reduceEqDiff, reduceCtorEq, reduceIte, ↓Opt.is, ↓Opt.no, ↓Asks.yes, ↓Asks.no, tyL, List.nodup_cons, encL, Tryd.f135, ← hac2, e3]
  · have hac2 : acyP (wrs gr.length p) (andNot x (undS (wrs gr.length p) x)) = acyP (wrs gr.length p) (2 ^ gr.length - 1) := by rw [← hac, acyP.eq_def _ x, dif_neg hu]
    have hlt2 := andNot_und_le hu
    have hlt3 := andNot_lt (undS (wrs gr.length p) x) hx
    have hin2 : ∀ y, (andNot x (undS (wrs gr.length p) x)).testBit y = true → y < gr.length := fun y hy => by
      rw [andNot_test, Bool.and_eq_true] at hy
      exact hin y hy.1
    rw [decide_eq_true hu] at e2
    generalize undS (wrs gr.length p) x = U at *
    generalize wrs gr.length p = W at *
    repeat (first | refine aq ?_ | refine ap (by rfl : apartB 0 _ _ = true) ?_ | refine ak ?_ | refine ab ?_ | refine al ?_ | ((first | refine ar ?_ | refine ad ty_mix (by kernel_rfl) ?_ | refine ac ?_ | refine ae ?_ | with_reducible refine Later.mk ?_); simp only [evD, evL, iteL, S.arg.eq_12, S.asL.eq_6, St.said, St.asked, evStep, evOp, evP, St.init, St.app, srcStep, kill, setMany, loadS, fieldS, buildS, toks, Fin, upd_app, Array.isEmpty, Nat.reduceLT, Nat.reduceAdd, Nat.reduceMul, Nat.reduceLeDiff, Nat.reduceSub, Nat.reduceEqDiff, reduceCtorEq, reduceIte, ↓Opt.is, ↓Opt.no, ↓Asks.yes, ↓Asks.no, tyL, encL, mkS, updl, asB]))
    refine ⟨_, hc2, ?_⟩; (repeat (first | refine ap (by rfl : apartB 0 _ _ = true) ?_ | refine ap (by simp [osL, D.flat]) ?_)); repeat (first | refine aq ?_ | refine ap (by rfl : apartB 0 _ _ = true) ?_ | refine ak ?_ | refine ab ?_ | refine al ?_ | ((first | refine ar ?_ | refine ad ty_mix (by kernel_rfl) ?_ | refine ac ?_ | refine ae ?_ | with_reducible refine Later.mk ?_); simp only [evD, evL, iteL, S.arg.eq_12, S.asL.eq_6, St.said, St.asked, evStep, evOp, evP, St.init, St.app, srcStep, kill, setMany, loadS, fieldS, buildS, toks, Fin, upd_app, Array.isEmpty, Nat.reduceLT, Nat.reduceAdd, Nat.reduceMul, Nat.reduceLeDiff, Nat.reduceSub, Nat.reduceEqDiff, reduceCtorEq, reduceIte, ↓Opt.is, ↓Opt.no, ↓Asks.yes, ↓Asks.no, tyL, encL, e2, asB]))
    refine ⟨_, hc2, ?_⟩; (repeat (first | refine ap (by rfl : apartB 0 _ _ = true) ?_ | refine ap (by simp [osL, D.flat]) ?_)); repeat (first | refine aq ?_ | refine ap (by rfl : apartB 0 _ _ = true) ?_ | refine ak ?_ | refine ab ?_ | refine al ?_ | ((first | refine ar ?_ | refine ad ty_mix (by kernel_rfl) ?_ | refine ac ?_ | refine ae ?_ | with_reducible refine Later.mk ?_); simp only [evD, evL, iteL, S.arg.eq_12, S.asL.eq_6, St.said, St.asked, evStep, evOp, evP, St.init, St.app, srcStep, kill, setMany, loadS, fieldS, buildS, toks, Fin, upd_app, Array.isEmpty, Nat.reduceLT, Nat.reduceAdd, Nat.reduceMul, Nat.reduceLeDiff, Nat.reduceSub, Nat.reduceEqDiff, reduceCtorEq, reduceIte, ↓Opt.is, ↓Opt.no, ↓Asks.yes, ↓Asks.no, tyL, encL, e1, asB]))
    refine ⟨_, hlt2, ⟨hlt3, hin2, hac2⟩, ?_⟩
    ((first | refine Le.mk rfl ?_ ?_ | refine LeTo.mk rfl ?_ ?_) <;> simp only [evD, evL, iteL, S.arg.eq_12, S.asL.eq_6, St.said, St.asked, evStep, evOp, evP, St.init, St.app, srcStep, kill, setMany, loadS, fieldS, buildS, toks, Fin, upd_app, Array.isEmpty, Nat.reduceLT, Nat.reduceAdd, Nat.reduceMul, Nat.reduceLeDiff, Nat.reduceSub, Nat.reduceEqDiff, reduceCtorEq, reduceIte, ↓Opt.is, ↓Opt.no, ↓Asks.yes, ↓Asks.no, tyL, encL, leL, leD, ne_eq])
theorem validE_ok {n : Int} {l : List Edg} (h : validE n l = true) : ∃ m : Nat, n = (m : Int) ∧ m ≤ 14 ∧ okN m l := by
  have h4 := h
  unfold validE inB at h4
  simp only [Bool.and_eq_true, decide_eq_true_eq, List.all_eq_true] at h4
  refine ⟨n.toNat, by omega, by omega, fun e he => ?_⟩
  have := h4.2.1 e he
  unfold okE at this
  simp only [Bool.and_eq_true, decide_eq_true_eq] at this
  omega
def prG (n : Int) (l p : List Edg) : List Nat × List Nat := if (validE n l && prE n.toNat l p) = true then (grf n.toNat l, wrs n.toNat p) else ([], [])
theorem newPref_a {n : Int} {l p : List Edg} (gE : (eSlice eEdg).good l) (gP : (eSlice eEdg).good p) (hl : l.length ≤ 1048576) (hp : p.length ≤ 1048576) : AC Tryd.prog 110 [.d (.v (.int .i64 n)), .d (encEs l), .d (encEs p)] (.t [.a [.d (.sl ((prG n l p).1.map encU)), .d (.sl ((prG n l p).2.map encU))], .d (.v (.bool (prfOk n l p)))]) := by
  have hc1 := implAreValidEdges_a (n := n) gE
  unfold prfOk prG
  rcases Bool.eq_false_or_eq_true (validE n l) with hd | hd
  · obtain ⟨m, rfl, hm, hok⟩ := validE_ok hd
    rw [hd] at hc1 ⊢
    rw [Int.toNat_natCast, Bool.true_and, Bool.true_and]
    have hc2 := newGraph_a (n := m) (l := l) (by omega) hl hok
    refine AC.intro Tryd.func110 rfl (by decide) (by simp [S.res, S.ress]) (by simp [S.os, S.oss]) (by simp [S.wfs, S.wf, dbS]) (by simp [Tryd.f110]) ?_; rw [Tryd.ntmps110]
    repeat (first | refine aq ?_ | refine ap (by rfl : apartB 0 _ _ = true) ?_ | refine ak ?_ | refine ab ?_ | refine al ?_ | ((first | refine ar ?_ | refine ad ty_mix (by kernel_rfl) ?_ | refine ac ?_ | refine ae ?_ | with_reducible refine Later.mk ?_); simp only [evD, evL, iteL, S.arg.eq_12, S.asL.eq_6, St.said, St.asked, evStep, evOp, evP, St.init, St.app, srcStep, kill, setMany, loadS, fieldS, buildS, toks, Fin, upd_app, Array.isEmpty, Nat.reduceLT, Nat.reduceAdd, Nat.reduceMul, Nat.reduceLeDiff, Nat.reduceSub, Nat.reduceEqDiff, reduceCtorEq, reduceIte, ↓Opt.is, ↓Opt.no, ↓Asks.yes, ↓Asks.no, tyL, encL, asB]))
    refine ⟨_, hc1, ?_⟩; (repeat (first | refine ap (by rfl : apartB 0 _ _ = true) ?_ | refine ap (by simp [osL, D.flat]) ?_)); repeat (first | refine aq ?_ | refine ap (by rfl : apartB 0 _ _ = true) ?_ | refine ak ?_ | refine ab ?_ | refine al ?_ | ((first | refine ar ?_ | refine ad ty_mix (by kernel_rfl) ?_ | refine ac ?_ | refine ae ?_ | with_reducible refine Later.mk ?_); simp only [evD, evL, iteL, S.arg.eq_12, S.asL.eq_6, St.said, St.asked, evStep, evOp, evP, St.init, St.app, srcStep, kill, setMany, loadS, fieldS, buildS, toks, Fin, upd_app, Array.isEmpty, Nat.reduceLT, Nat.reduceAdd, Nat.reduceMul, Nat.reduceLeDiff, Nat.reduceSub, Nat.reduceEqDiff, reduceCtorEq, reduceIte, ↓Opt.is, ↓Opt.no, ↓Asks.yes, ↓Asks.no, tyL, encL, asB]))
    refine ⟨_, hc2, ?_⟩; (repeat (first | refine ap (by rfl : apartB 0 _ _ = true) ?_ | refine ap (by simp [osL, D.flat]) ?_)); repeat (first | refine aq ?_ | refine ap (by rfl : apartB 0 _ _ = true) ?_ | refine ak ?_ | refine ab ?_ | refine al ?_ | ((first | refine ar ?_ | refine ad ty_mix (by kernel_rfl) ?_ | refine ac ?_ | refine ae ?_ | with_reducible refine Later.mk ?_); simp only [evD, evL, iteL, S.arg.eq_12, S.asL.eq_6, St.said, St.asked, evStep, evOp, evP, St.init, St.app, srcStep, kill, setMany, loadS, fieldS, buildS, toks, Fin, upd_app, Array.isEmpty, Nat.reduceLT, Nat.reduceAdd, Nat.reduceMul, Nat.reduceLeDiff, Nat.reduceSub, Nat.reduceEqDiff, reduceCtorEq, reduceIte, ↓Opt.is, ↓Opt.no, ↓Asks.yes, ↓Asks.no, tyL, encL, asB]))
    refine ⟨by simp [D.flat], by omega, by simp only [maxLen]; omega, ?_⟩
    repeat (first | refine aq ?_ | refine ap (by rfl : apartB 0 _ _ = true) ?_ | refine ak ?_ | refine ab ?_ | refine al ?_ | ((first | refine ar ?_ | refine ad ty_mix (by kernel_rfl) ?_ | refine ac ?_ | refine ae ?_ | with_reducible refine Later.mk ?_); simp only [evD, evL, iteL, S.arg.eq_12, S.asL.eq_6, St.said, St.asked, evStep, evOp, evP, St.init, St.app, srcStep, kill, setMany, loadS, fieldS, buildS, toks, Fin, upd_app, Array.isEmpty, Nat.reduceLT, Nat.reduceAdd, Nat.reduceMul, Nat.reduceLeDiff, Nat.reduceSub, Nat.reduceEqDiff, reduceCtorEq, reduceIte, ↓Opt.is, ↓Opt.no, ↓Asks.yes, ↓Asks.no, tyL, encL, asB]))
    refine Ab.loopI p.length (fun i => prE m l (p.take i) = true) (fun i => mkS 55 [(6, .p 0 0), (8, .p 192 0), (22, .d (.sl (List.map encE p))), (23, .d (.v (.int .i64 (p.length : Int)))), (24, .d (.v (.int .i64 (i : Int))))] [(0, .box [.d (.v (.slice none 0 0)), .d (.v (.slice none 0 0))]), (128, .tok (.sl (List.map encU (grf m l)))), (160, .arr true 81 1 ((wrs m (p.take i)).map encU)), (192, .box [.o 128 (.sl (List.map encU (grf m l))), .m 160])] 224) rfl ?_ ?_
    · ((first | refine Le.mk rfl ?_ ?_ | refine LeTo.mk rfl ?_ ?_) <;> simp only [evD, evL, iteL, S.arg.eq_12, S.asL.eq_6, St.said, St.asked, evStep, evOp, evP, St.init, St.app, srcStep, kill, setMany, loadS, fieldS, buildS, toks, Fin, upd_app, Array.isEmpty, Nat.reduceLT, Nat.reduceAdd, Nat.reduceMul, Nat.reduceLeDiff, Nat.reduceSub, Nat.reduceEqDiff, reduceCtorEq, reduceIte, ↓Opt.is, ↓Opt.no, ↓Asks.yes, ↓Asks.no, tyL, encL, leL, leD, ne_eq, List.take_zero, wrs, List.foldl_nil, List.map_replicate, encU])
    intro i hi hpr
    have hwl := wrs_len m (p.take i)
    have hoP := prE_ok hpr
    repeat (first | refine aq ?_ | refine ap (by rfl : apartB 0 _ _ = true) ?_ | refine ak ?_ | refine ab ?_ | refine al ?_ | ((first | refine ar ?_ | refine ad ty_mix (by kernel_rfl) ?_ | refine ac ?_ | refine ae ?_ | with_reducible refine Later.mk ?_); simp only [evD, evL, iteL, S.arg.eq_12, S.asL.eq_6, St.said, St.asked, evStep, evOp, evP, St.init, St.app, srcStep, kill, setMany, loadS, fieldS, buildS, toks, Fin, upd_app, Array.isEmpty, Nat.reduceLT, Nat.reduceAdd, Nat.reduceMul, Nat.reduceLeDiff, Nat.reduceSub, Nat.reduceEqDiff, reduceCtorEq, reduceIte, ↓Opt.is, ↓Opt.no, ↓Asks.yes, ↓Asks.no, tyL, encL, mkS, updl, asB]))
    refine ⟨fun h2 => ?_, fun h2 => ?_⟩
    · have h2 : i < p.length := by simpa using h2
      have hw := wrapN h2 (by omega)
      have hc3 := hasEdge_a (n := m) (l := l) (by omega) hok p[i].a p[i].b
      have hst : wrs m (p.take (i + 1)) = addB (wrs m (p.take i)) p[i].a.toNat p[i].b.toNat := by rw [List.take_succ_eq_append_getElem h2, wrs_snoc]
      have hpr2 : prE m l (p.take (i + 1)) = (prE m l (p.take i) && hasPE m l p[i].a p[i].b) := by
        rw [List.take_succ_eq_append_getElem h2]
        unfold prE
        rw [List.all_append, List.all_cons, List.all_nil, Bool.and_true]
      have hwlt := wrs_lt hoP (by omega : m ≤ 64)
      generalize wrs m (p.take i) = W at *
      have hlen := grf_len m l
      rcases Bool.eq_false_or_eq_true (hasPE m l p[i].a p[i].b) with hh | hh
      · have hh2 := hh
        unfold hasPE at hh2
        simp only [Bool.and_eq_true, decide_eq_true_eq] at hh2
        obtain ⟨a, ha⟩ : ∃ a : Nat, p[i].a = (a : Int) := ⟨p[i].a.toNat, by omega⟩
        obtain ⟨b, hb⟩ : ∃ b : Nat, p[i].b = (b : Int) := ⟨p[i].b.toNat, by omega⟩
        rw [hh] at hc3
        rw [hpr, hh] at hpr2
        rw [ha, hb, Int.toNat_natCast, Int.toNat_natCast] at hst
        rw [ha, hb] at hc3
        have hga := getG (G := W) (i := a) (by omega)
        have hs1 := setG W a b
        have hc4 := bits_with_a (W.getD a 0) b (hwlt a) (by omega)
        have z1 : (a < W.length) = True := eq_true (by omega)
        have z3 : ∀ x : Nat, (0 ≤ (x : Int)) = True := fun x => eq_true (by omega)
        generalize List.map encU (grf m l) = GG at *
        repeat (first | refine aq ?_ | refine ap (by rfl : apartB 0 _ _ = true) ?_ | refine ak ?_ | refine ab ?_ | refine al ?_ | ((first | refine ar ?_ | refine ad ty_mix (by kernel_rfl) ?_ | refine ac ?_ | refine ae ?_ | with_reducible refine Later.mk ?_); simp only [evD, evL, iteL, S.arg.eq_12, S.asL.eq_6, St.said, St.asked, evStep, evOp, evP, St.init, St.app, srcStep, kill, setMany, loadS, fieldS, buildS, toks, Fin, upd_app, Array.isEmpty, Nat.reduceLT, Nat.reduceAdd, Nat.reduceMul, Nat.reduceLeDiff, Nat.reduceSub, Nat.reduceEqDiff, reduceCtorEq, reduceIte, ↓Opt.is, ↓Opt.no, ↓Asks.yes, ↓Asks.no, tyL, encL, getE h2, encE, ha, hb, hga, z1, z3, List.length_map, Int.toNat_natCast, if_true, asB]))
        refine ⟨_, hc3, ?_⟩; (repeat (first | refine ap (by rfl : apartB 0 _ _ = true) ?_ | refine ap (by simp [osL, D.flat]) ?_)); repeat (first | refine aq ?_ | refine ap (by rfl : apartB 0 _ _ = true) ?_ | refine ak ?_ | refine ab ?_ | refine al ?_ | ((first | refine ar ?_ | refine ad ty_mix (by kernel_rfl) ?_ | refine ac ?_ | refine ae ?_ | with_reducible refine Later.mk ?_); simp only [evD, evL, iteL, S.arg.eq_12, S.asL.eq_6, St.said, St.asked, evStep, evOp, evP, St.init, St.app, srcStep, kill, setMany, loadS, fieldS, buildS, toks, Fin, upd_app, Array.isEmpty, Nat.reduceLT, Nat.reduceAdd, Nat.reduceMul, Nat.reduceLeDiff, Nat.reduceSub, Nat.reduceEqDiff, reduceCtorEq, reduceIte, ↓Opt.is, ↓Opt.no, ↓Asks.yes, ↓Asks.no, tyL, encL, hga, z1, z3, List.length_map, Int.toNat_natCast, if_true, hs1, asB]))
        refine ⟨_, hc4, ?_⟩; (repeat (first | refine ap (by rfl : apartB 0 _ _ = true) ?_ | refine ap (by simp [osL, D.flat]) ?_)); repeat (first | refine aq ?_ | refine ap (by rfl : apartB 0 _ _ = true) ?_ | refine ak ?_ | refine ab ?_ | refine al ?_ | ((first | refine ar ?_ | refine ad ty_mix (by kernel_rfl) ?_ | refine ac ?_ | refine ae ?_ | with_reducible refine Later.mk ?_); simp only [evD, evL, iteL, S.arg.eq_12, S.asL.eq_6, St.said, St.asked, evStep, evOp, evP, St.init, St.app, srcStep, kill, setMany, loadS, fieldS, buildS, toks, Fin, upd_app, Array.isEmpty, Nat.reduceLT, Nat.reduceAdd, Nat.reduceMul, Nat.reduceLeDiff, Nat.reduceSub, Nat.reduceEqDiff, reduceCtorEq, reduceIte, ↓Opt.is, ↓Opt.no, ↓Asks.yes, ↓Asks.no, tyL, encL, hga, z1, z3, List.length_map, Int.toNat_natCast, if_true, hs1, hw, asB]))
        refine ⟨h2, hpr2, ?_⟩
        ((first | refine Le.mk rfl ?_ ?_ | refine LeTo.mk rfl ?_ ?_) <;> simp only [evD, evL, iteL, S.arg.eq_12, S.asL.eq_6, St.said, St.asked, evStep, evOp, evP, St.init, St.app, srcStep, kill, setMany, loadS, fieldS, buildS, toks, Fin, upd_app, Array.isEmpty, Nat.reduceLT, Nat.reduceAdd, Nat.reduceMul, Nat.reduceLeDiff, Nat.reduceSub, Nat.reduceEqDiff, reduceCtorEq, reduceIte, ↓Opt.is, ↓Opt.no, ↓Asks.yes, ↓Asks.no, tyL, encL, leL, leD, ne_eq, hst])
      · have hpf : prE m l p = false := by
          unfold prE
          rw [List.all_eq_false]
          exact ⟨p[i], List.getElem_mem h2, by rw [hh]; simp⟩
        rw [hpf, if_neg (by simp)]
        rw [hh] at hc3
        generalize List.map encU (grf m l) = GG at *
        repeat (first | refine aq ?_ | refine ap (by rfl : apartB 0 _ _ = true) ?_ | refine ak ?_ | refine ab ?_ | refine al ?_ | ((first | refine ar ?_ | refine ad ty_mix (by kernel_rfl) ?_ | refine ac ?_ | refine ae ?_ | with_reducible refine Later.mk ?_); simp only [evD, evL, iteL, S.arg.eq_12, S.asL.eq_6, St.said, St.asked, evStep, evOp, evP, St.init, St.app, srcStep, kill, setMany, loadS, fieldS, buildS, toks, Fin, upd_app, Array.isEmpty, Nat.reduceLT, Nat.reduceAdd, Nat.reduceMul, Nat.reduceLeDiff, Nat.reduceSub, Nat.reduceEqDiff, reduceCtorEq, reduceIte, ↓Opt.is, ↓Opt.no, ↓Asks.yes, ↓Asks.no, tyL, encL, getE h2, encE, asB]))
        refine ⟨_, hc3, ?_⟩; (repeat (first | refine ap (by rfl : apartB 0 _ _ = true) ?_ | refine ap (by simp [osL, D.flat]) ?_)); repeat (first | refine aq ?_ | refine ap (by rfl : apartB 0 _ _ = true) ?_ | refine ak ?_ | refine ab ?_ | refine al ?_ | ((first | refine ar ?_ | refine ad ty_mix (by kernel_rfl) ?_ | refine ac ?_ | refine ae ?_ | with_reducible refine Later.mk ?_); simp only [evD, evL, iteL, S.arg.eq_12, S.asL.eq_6, St.said, St.asked, evStep, evOp, evP, St.init, St.app, srcStep, kill, setMany, loadS, fieldS, buildS, toks, Fin, upd_app, Array.isEmpty, Nat.reduceLT, Nat.reduceAdd, Nat.reduceMul, Nat.reduceLeDiff, Nat.reduceSub, Nat.reduceEqDiff, reduceCtorEq, reduceIte, ↓Opt.is, ↓Opt.no, ↓Asks.yes, ↓Asks.no, tyL, encL, getE h2, encE, asB]))
        refine Ab.ret ?_; simp only [evD, evL, iteL, S.arg.eq_12, S.asL.eq_6, St.said, St.asked, evStep, evOp, evP, St.init, St.app, srcStep, kill, setMany, loadS, fieldS, buildS, toks, Fin, upd_app, Array.isEmpty, Nat.reduceLT, Nat.reduceAdd, Nat.reduceMul, Nat.reduceLeDiff, Nat.reduceSub, Nat.reduceEqDiff, reduceCtorEq, reduceIte, ↓Opt.is, ↓Opt.no, ↓Asks.yes, ↓Asks.no, tyL, List.nodup_cons, encL, Tryd.f110]
    · have h2 : i = p.length := by have := of_decide_eq_false h2; omega
      subst h2
      rw [List.take_length] at hpr hwl hoP
      rw [hpr, if_pos rfl]
      have hgl := grf_len m l
      have hc5 := isAcyclic_a (n := m) hm hoP hgl
      rw [acy_all hoP (by omega)] at hc5
      repeat (first | refine aq ?_ | refine ap (by rfl : apartB 0 _ _ = true) ?_ | refine ak ?_ | refine ab ?_ | refine al ?_ | ((first | refine ar ?_ | refine ad ty_mix (by kernel_rfl) ?_ | refine ac ?_ | refine ae ?_ | with_reducible refine Later.mk ?_); simp only [evD, evL, iteL, S.arg.eq_12, S.asL.eq_6, St.said, St.asked, evStep, evOp, evP, St.init, St.app, srcStep, kill, setMany, loadS, fieldS, buildS, toks, Fin, upd_app, Array.isEmpty, Nat.reduceLT, Nat.reduceAdd, Nat.reduceMul, Nat.reduceLeDiff, Nat.reduceSub, Nat.reduceEqDiff, reduceCtorEq, reduceIte, ↓Opt.is, ↓Opt.no, ↓Asks.yes, ↓Asks.no, tyL, encL, List.take_length, asB]))
      refine ⟨_, hc5, ?_⟩; (repeat (first | refine ap (by rfl : apartB 0 _ _ = true) ?_ | refine ap (by simp [osL, D.flat]) ?_)); repeat (first | refine aq ?_ | refine ap (by rfl : apartB 0 _ _ = true) ?_ | refine ak ?_ | refine ab ?_ | refine al ?_ | ((first | refine ar ?_ | refine ad ty_mix (by kernel_rfl) ?_ | refine ac ?_ | refine ae ?_ | with_reducible refine Later.mk ?_); simp only [evD, evL, iteL, S.arg.eq_12, S.asL.eq_6, St.said, St.asked, evStep, evOp, evP, St.init, St.app, srcStep, kill, setMany, loadS, fieldS, buildS, toks, Fin, upd_app, Array.isEmpty, Nat.reduceLT, Nat.reduceAdd, Nat.reduceMul, Nat.reduceLeDiff, Nat.reduceSub, Nat.reduceEqDiff, reduceCtorEq, reduceIte, ↓Opt.is, ↓Opt.no, ↓Asks.yes, ↓Asks.no, tyL, encL, asB]))
      refine Ab.ret ?_; simp only [evD, evL, iteL, S.arg.eq_12, S.asL.eq_6, St.said, St.asked, evStep, evOp, evP, St.init, St.app, srcStep, kill, setMany, loadS, fieldS, buildS, toks, Fin, upd_app, Array.isEmpty, Nat.reduceLT, Nat.reduceAdd, Nat.reduceMul, Nat.reduceLeDiff, Nat.reduceSub, Nat.reduceEqDiff, reduceCtorEq, reduceIte, ↓Opt.is, ↓Opt.no, ↓Asks.yes, ↓Asks.no, tyL, List.nodup_cons, encL, Tryd.f110]
  · rw [hd] at hc1 ⊢
    rw [Bool.false_and, if_neg (by simp)]
    refine AC.intro Tryd.func110 rfl (by decide) (by simp [S.res, S.ress]) (by simp [S.os, S.oss]) (by simp [S.wfs, S.wf, dbS]) (by simp [Tryd.f110]) ?_; rw [Tryd.ntmps110]
    repeat (first | refine aq ?_ | refine ap (by rfl : apartB 0 _ _ = true) ?_ | refine ak ?_ | refine ab ?_ | refine al ?_ | ((first | refine ar ?_ | refine ad ty_mix (by kernel_rfl) ?_ | refine ac ?_ | refine ae ?_ | with_reducible refine Later.mk ?_); simp only [evD, evL, iteL, S.arg.eq_12, S.asL.eq_6, St.said, St.asked, evStep, evOp, evP, St.init, St.app, srcStep, kill, setMany, loadS, fieldS, buildS, toks, Fin, upd_app, Array.isEmpty, Nat.reduceLT, Nat.reduceAdd, Nat.reduceMul, Nat.reduceLeDiff, Nat.reduceSub, Nat.reduceEqDiff, reduceCtorEq, reduceIte, ↓Opt.is, ↓Opt.no, ↓Asks.yes, ↓Asks.no, tyL, encL, asB]))
    refine ⟨_, hc1, ?_⟩; (repeat (first | refine ap (by rfl : apartB 0 _ _ = true) ?_ | refine ap (by simp [osL, D.flat]) ?_)); repeat (first | refine aq ?_ | refine ap (by rfl : apartB 0 _ _ = true) ?_ | refine ak ?_ | refine ab ?_ | refine al ?_ | ((first | refine ar ?_ | refine ad ty_mix (by kernel_rfl) ?_ | refine ac ?_ | refine ae ?_ | with_reducible refine Later.mk ?_); simp only [evD, evL, iteL, S.arg.eq_12, S.asL.eq_6, St.said, St.asked, evStep, evOp, evP, St.init, St.app, srcStep, kill, setMany, loadS, fieldS, buildS, toks, Fin, upd_app, Array.isEmpty, Nat.reduceLT, Nat.reduceAdd, Nat.reduceMul, Nat.reduceLeDiff, Nat.reduceSub, Nat.reduceEqDiff, reduceCtorEq, reduceIte, ↓Opt.is, ↓Opt.no, ↓Asks.yes, ↓Asks.no, tyL, encL, asB]))
    refine Ab.ret ?_; simp only [evD, evL, iteL, S.arg.eq_12, S.asL.eq_6, St.said, St.asked, evStep, evOp, evP, St.init, St.app, srcStep, kill, setMany, loadS, fieldS, buildS, toks, Fin, upd_app, Array.isEmpty, Nat.reduceLT, Nat.reduceAdd, Nat.reduceMul, Nat.reduceLeDiff, Nat.reduceSub, Nat.reduceEqDiff, reduceCtorEq, reduceIte, ↓Opt.is, ↓Opt.no, ↓Asks.yes, ↓Asks.no, tyL, List.nodup_cons, encL, Tryd.f110]
end Go.Proofs.YtgipcnofonejcaaDoor.Ab

/- Chapter 28: preferences in the model. -/
open Go Go.Proofs Go.RowKit
namespace Go.Proofs.YtgipcnofonejcaaDoor.Ab
set_option linter.unusedSimpArgs false
set_option linter.unusedVariables false
set_option maxRecDepth 100000
theorem any_snoc {α : Type} (l : List α) (f : α → Bool) {i : Nat} (h : i < l.length) : (l.take (i + 1)).any f = ((l.take i).any f || f l[i]) := by
  rw [List.take_succ_eq_append_getElem h, List.any_append, List.any_cons, List.any_nil, Bool.or_false]
theorem all_snoc {α : Type} (l : List α) (f : α → Bool) {i : Nat} (h : i < l.length) : (l.take (i + 1)).all f = ((l.take i).all f && f l[i]) := by
  rw [List.take_succ_eq_append_getElem h, List.all_append, List.all_cons, List.all_nil, Bool.and_true]
theorem any_hit {α : Type} {l : List α} {f : α → Bool} {i : Nat} (h : i < l.length) (hf : f l[i] = true) : l.any f = true := List.any_eq_true.2 ⟨l[i], List.getElem_mem h, hf⟩
theorem l28Edge_a {l : List Edg} (gE : (eSlice eEdg).good l) (a b : Int) (hl : l.length ≤ 1048576) : AC Tryd.prog 108 [.d (encEs l), .d (.v (.int .i64 a)), .d (.v (.int .i64 b))] (.d (.v (.bool (edgeP l a b)))) := by
  have hmn : min a b = if b < a then b else a := by split <;> omega
  have hmx : max a b = if a < b then b else a := by split <;> omega
  refine AC.intro Tryd.func108 rfl (by decide) (by simp [S.res, S.ress]) (by simp [S.os, S.oss]) (by simp [S.wfs, S.wf, dbS]) (by simp [Tryd.f108]) ?_; rw [Tryd.ntmps108]
  repeat (first | refine aq ?_ | refine ap (by rfl : apartB 0 _ _ = true) ?_ | refine ak ?_ | refine ab ?_ | refine al ?_ | ((first | refine ar ?_ | refine ad ty_mix (by kernel_rfl) ?_ | refine ac ?_ | refine ae ?_ | with_reducible refine Later.mk ?_); simp only [evD, evL, iteL, S.arg.eq_12, S.asL.eq_6, St.said, St.asked, evStep, evOp, evP, St.init, St.app, srcStep, kill, setMany, loadS, fieldS, buildS, toks, Fin, upd_app, Array.isEmpty, Nat.reduceLT, Nat.reduceAdd, Nat.reduceMul, Nat.reduceLeDiff, Nat.reduceSub, Nat.reduceEqDiff, reduceCtorEq, reduceIte, ↓Opt.is, ↓Opt.no, ↓Asks.yes, ↓Asks.no, tyL, encL, asB]))
  refine Ab.loopI l.length (fun i => (l.take i).any (fun e => decide (e.a = min a b) && decide (e.b = max a b)) = false) (fun i => mkS 34 [(0, .d (.sl (List.map encE l))), (1, .d (.v (.int .i64 a))), (2, .d (.v (.int .i64 b))), (7, .d (.v (.int .i64 (i : Int))))] [] 32) rfl ?_ ?_
  · ((first | refine Le.mk rfl ?_ ?_ | refine LeTo.mk rfl ?_ ?_) <;> simp only [evD, evL, iteL, S.arg.eq_12, S.asL.eq_6, St.said, St.asked, evStep, evOp, evP, St.init, St.app, srcStep, kill, setMany, loadS, fieldS, buildS, toks, Fin, upd_app, Array.isEmpty, Nat.reduceLT, Nat.reduceAdd, Nat.reduceMul, Nat.reduceLeDiff, Nat.reduceSub, Nat.reduceEqDiff, reduceCtorEq, reduceIte, ↓Opt.is, ↓Opt.no, ↓Asks.yes, ↓Asks.no, tyL, encL, leL, leD, ne_eq])
  intro i hi hA
  repeat (first | refine aq ?_ | refine ap (by rfl : apartB 0 _ _ = true) ?_ | refine ak ?_ | refine ab ?_ | refine al ?_ | ((first | refine ar ?_ | refine ad ty_mix (by kernel_rfl) ?_ | refine ac ?_ | refine ae ?_ | with_reducible refine Later.mk ?_); simp only [evD, evL, iteL, S.arg.eq_12, S.asL.eq_6, St.said, St.asked, evStep, evOp, evP, St.init, St.app, srcStep, kill, setMany, loadS, fieldS, buildS, toks, Fin, upd_app, Array.isEmpty, Nat.reduceLT, Nat.reduceAdd, Nat.reduceMul, Nat.reduceLeDiff, Nat.reduceSub, Nat.reduceEqDiff, reduceCtorEq, reduceIte, ↓Opt.is, ↓Opt.no, ↓Asks.yes, ↓Asks.no, tyL, encL, mkS, updl, asB]))
  refine ⟨fun h => ?_, fun h => ?_⟩
  · have h : i < l.length := by simpa using h
    have hw := wrapN h (by omega)
    have z3 : ∀ x : Nat, (0 ≤ (x : Int)) = True := fun x => eq_true (by omega)
    have hB := any_snoc l (fun e => decide (e.a = min a b) && decide (e.b = max a b)) h
    rw [hA, Bool.false_or] at hB
    by_cases h1 : l[i].a = min a b
    · have b1 : (l[i].a == if b < a then b else a) = true := beq_iff_eq.2 (h1.trans hmn)
      by_cases h2 : l[i].b = max a b
      · have b2 : (l[i].b == if a < b then b else a) = true := beq_iff_eq.2 (h2.trans hmx)
        have hr : edgeP l a b = true := any_hit h (by simp only [h1, h2, decide_true, Bool.and_self])
        repeat (first | refine aq ?_ | refine ap (by rfl : apartB 0 _ _ = true) ?_ | refine ak ?_ | refine ab ?_ | refine al ?_ | ((first | refine ar ?_ | refine ad ty_mix (by kernel_rfl) ?_ | refine ac ?_ | refine ae ?_ | with_reducible refine Later.mk ?_); simp only [evD, evL, iteL, S.arg.eq_12, S.asL.eq_6, St.said, St.asked, evStep, evOp, evP, St.init, St.app, srcStep, kill, setMany, loadS, fieldS, buildS, toks, Fin, upd_app, Array.isEmpty, Nat.reduceLT, Nat.reduceAdd, Nat.reduceMul, Nat.reduceLeDiff, Nat.reduceSub, Nat.reduceEqDiff, reduceCtorEq, reduceIte, ↓Opt.is, ↓Opt.no, ↓Asks.yes, ↓Asks.no, tyL, encL, getE h, encE, z3, b1, b2, asB]))
        refine Ab.ret ?_; simp only [evD, evL, iteL, S.arg.eq_12, S.asL.eq_6, St.said, St.asked, evStep, evOp, evP, St.init, St.app, srcStep, kill, setMany, loadS, fieldS, buildS, toks, Fin, upd_app, Array.isEmpty, Nat.reduceLT, Nat.reduceAdd, Nat.reduceMul, Nat.reduceLeDiff, Nat.reduceSub, Nat.reduceEqDiff, reduceCtorEq, reduceIte, ↓Opt.is, ↓Opt.no, ↓Asks.yes, ↓Asks.no, tyL, List.nodup_cons, encL, Tryd.f108, hr]
      · have b2 : (l[i].b == if a < b then b else a) = false := beq_eq_false_iff_ne.2 (hmx ▸ h2)
        repeat (first | refine aq ?_ | refine ap (by rfl : apartB 0 _ _ = true) ?_ | refine ak ?_ | refine ab ?_ | refine al ?_ | ((first | refine ar ?_ | refine ad ty_mix (by kernel_rfl) ?_ | refine ac ?_ | refine ae ?_ | with_reducible refine Later.mk ?_); simp only [evD, evL, iteL, S.arg.eq_12, S.asL.eq_6, St.said, St.asked, evStep, evOp, evP, St.init, St.app, srcStep, kill, setMany, loadS, fieldS, buildS, toks, Fin, upd_app, Array.isEmpty, Nat.reduceLT, Nat.reduceAdd, Nat.reduceMul, Nat.reduceLeDiff, Nat.reduceSub, Nat.reduceEqDiff, reduceCtorEq, reduceIte, ↓Opt.is, ↓Opt.no, ↓Asks.yes, ↓Asks.no, tyL, encL, getE h, encE, z3, b1, b2, hw, asB]))
        refine ⟨h, ?_, ?_⟩
        · rw [hB, decide_eq_false h2, Bool.and_false]
        ((first | refine Le.mk rfl ?_ ?_ | refine LeTo.mk rfl ?_ ?_) <;> simp only [evD, evL, iteL, S.arg.eq_12, S.asL.eq_6, St.said, St.asked, evStep, evOp, evP, St.init, St.app, srcStep, kill, setMany, loadS, fieldS, buildS, toks, Fin, upd_app, Array.isEmpty, Nat.reduceLT, Nat.reduceAdd, Nat.reduceMul, Nat.reduceLeDiff, Nat.reduceSub, Nat.reduceEqDiff, reduceCtorEq, reduceIte, ↓Opt.is, ↓Opt.no, ↓Asks.yes, ↓Asks.no, tyL, encL, leL, leD, ne_eq])
    · have b1 : (l[i].a == if b < a then b else a) = false := beq_eq_false_iff_ne.2 (hmn ▸ h1)
      repeat (first | refine aq ?_ | refine ap (by rfl : apartB 0 _ _ = true) ?_ | refine ak ?_ | refine ab ?_ | refine al ?_ | ((first | refine ar ?_ | refine ad ty_mix (by kernel_rfl) ?_ | refine ac ?_ | refine ae ?_ | with_reducible refine Later.mk ?_); simp only [evD, evL, iteL, S.arg.eq_12, S.asL.eq_6, St.said, St.asked, evStep, evOp, evP, St.init, St.app, srcStep, kill, setMany, loadS, fieldS, buildS, toks, Fin, upd_app, Array.isEmpty, Nat.reduceLT, Nat.reduceAdd, Nat.reduceMul, Nat.reduceLeDiff, Nat.reduceSub, Nat.reduceEqDiff, reduceCtorEq, reduceIte, ↓Opt.is, ↓Opt.no, ↓Asks.yes, ↓Asks.no, tyL, encL, getE h, encE, z3, b1, hw, asB]))
      refine ⟨h, ?_, ?_⟩
      · rw [hB, decide_eq_false h1, Bool.false_and]
      ((first | refine Le.mk rfl ?_ ?_ | refine LeTo.mk rfl ?_ ?_) <;> simp only [evD, evL, iteL, S.arg.eq_12, S.asL.eq_6, St.said, St.asked, evStep, evOp, evP, St.init, St.app, srcStep, kill, setMany, loadS, fieldS, buildS, toks, Fin, upd_app, Array.isEmpty, Nat.reduceLT, Nat.reduceAdd, Nat.reduceMul, Nat.reduceLeDiff, Nat.reduceSub, Nat.reduceEqDiff, reduceCtorEq, reduceIte, ↓Opt.is, ↓Opt.no, ↓Asks.yes, ↓Asks.no, tyL, encL, leL, leD, ne_eq])
  · have h : i = l.length := by have := of_decide_eq_false h; omega
    subst h
    rw [List.take_length] at hA
    have hr : edgeP l a b = false := hA
    repeat (first | refine aq ?_ | refine ap (by rfl : apartB 0 _ _ = true) ?_ | refine ak ?_ | refine ab ?_ | refine al ?_ | ((first | refine ar ?_ | refine ad ty_mix (by kernel_rfl) ?_ | refine ac ?_ | refine ae ?_ | with_reducible refine Later.mk ?_); simp only [evD, evL, iteL, S.arg.eq_12, S.asL.eq_6, St.said, St.asked, evStep, evOp, evP, St.init, St.app, srcStep, kill, setMany, loadS, fieldS, buildS, toks, Fin, upd_app, Array.isEmpty, Nat.reduceLT, Nat.reduceAdd, Nat.reduceMul, Nat.reduceLeDiff, Nat.reduceSub, Nat.reduceEqDiff, reduceCtorEq, reduceIte, ↓Opt.is, ↓Opt.no, ↓Asks.yes, ↓Asks.no, tyL, encL, asB]))
    refine Ab.ret ?_; simp only [evD, evL, iteL, S.arg.eq_12, S.asL.eq_6, St.said, St.asked, evStep, evOp, evP, St.init, St.app, srcStep, kill, setMany, loadS, fieldS, buildS, toks, Fin, upd_app, Array.isEmpty, Nat.reduceLT, Nat.reduceAdd, Nat.reduceMul, Nat.reduceLeDiff, Nat.reduceSub, Nat.reduceEqDiff, reduceCtorEq, reduceIte, ↓Opt.is, ↓Opt.no, ↓Asks.yes, ↓Asks.no, tyL, List.nodup_cons, encL, Tryd.f108, hr]
theorem isPreferred_a {p : List Edg} (gP : (eSlice eEdg).good p) (a b : Int) (hp : p.length ≤ 1048576) : AC Tryd.prog 109 [.d (encEs p), .d (.v (.int .i64 a)), .d (.v (.int .i64 b))] (.d (.v (.bool (isPr p a b)))) := by
  refine AC.intro Tryd.func109 rfl (by decide) (by simp [S.res, S.ress]) (by simp [S.os, S.oss]) (by simp [S.wfs, S.wf, dbS]) (by simp [Tryd.f109]) ?_; rw [Tryd.ntmps109]
  repeat (first | refine aq ?_ | refine ap (by rfl : apartB 0 _ _ = true) ?_ | refine ak ?_ | refine ab ?_ | refine al ?_ | ((first | refine ar ?_ | refine ad ty_mix (by kernel_rfl) ?_ | refine ac ?_ | refine ae ?_ | with_reducible refine Later.mk ?_); simp only [evD, evL, iteL, S.arg.eq_12, S.asL.eq_6, St.said, St.asked, evStep, evOp, evP, St.init, St.app, srcStep, kill, setMany, loadS, fieldS, buildS, toks, Fin, upd_app, Array.isEmpty, Nat.reduceLT, Nat.reduceAdd, Nat.reduceMul, Nat.reduceLeDiff, Nat.reduceSub, Nat.reduceEqDiff, reduceCtorEq, reduceIte, ↓Opt.is, ↓Opt.no, ↓Asks.yes, ↓Asks.no, tyL, encL, asB]))
  refine Ab.loopI p.length (fun i => (p.take i).any (fun e => decide (e.a = a) && decide (e.b = b)) = false) (fun i => mkS 30 [(0, .d (.sl (List.map encE p))), (1, .d (.v (.int .i64 a))), (2, .d (.v (.int .i64 b))), (7, .d (.v (.int .i64 (i : Int))))] [] 32) rfl ?_ ?_
  · ((first | refine Le.mk rfl ?_ ?_ | refine LeTo.mk rfl ?_ ?_) <;> simp only [evD, evL, iteL, S.arg.eq_12, S.asL.eq_6, St.said, St.asked, evStep, evOp, evP, St.init, St.app, srcStep, kill, setMany, loadS, fieldS, buildS, toks, Fin, upd_app, Array.isEmpty, Nat.reduceLT, Nat.reduceAdd, Nat.reduceMul, Nat.reduceLeDiff, Nat.reduceSub, Nat.reduceEqDiff, reduceCtorEq, reduceIte, ↓Opt.is, ↓Opt.no, ↓Asks.yes, ↓Asks.no, tyL, encL, leL, leD, ne_eq])
  intro i hi hA
  repeat (first | refine aq ?_ | refine ap (by rfl : apartB 0 _ _ = true) ?_ | refine ak ?_ | refine ab ?_ | refine al ?_ | ((first | refine ar ?_ | refine ad ty_mix (by kernel_rfl) ?_ | refine ac ?_ | refine ae ?_ | with_reducible refine Later.mk ?_); simp only [evD, evL, iteL, S.arg.eq_12, S.asL.eq_6, St.said, St.asked, evStep, evOp, evP, St.init, St.app, srcStep, kill, setMany, loadS, fieldS, buildS, toks, Fin, upd_app, Array.isEmpty, Nat.reduceLT, Nat.reduceAdd, Nat.reduceMul, Nat.reduceLeDiff, Nat.reduceSub, Nat.reduceEqDiff, reduceCtorEq, reduceIte, ↓Opt.is, ↓Opt.no, ↓Asks.yes, ↓Asks.no, tyL, encL, mkS, updl, asB]))
  refine ⟨fun h => ?_, fun h => ?_⟩
  · have h : i < p.length := by simpa using h
    have hw := wrapN h (by omega)
    have z3 : ∀ x : Nat, (0 ≤ (x : Int)) = True := fun x => eq_true (by omega)
    have hB := any_snoc p (fun e => decide (e.a = a) && decide (e.b = b)) h
    rw [hA, Bool.false_or] at hB
    by_cases h1 : p[i].a = a
    · have b1 : (p[i].a == a) = true := beq_iff_eq.2 h1
      by_cases h2 : p[i].b = b
      · have b2 : (p[i].b == b) = true := beq_iff_eq.2 h2
        have hr : isPr p a b = true := any_hit h (by simp only [h1, h2, decide_true, Bool.and_self])
        repeat (first | refine aq ?_ | refine ap (by rfl : apartB 0 _ _ = true) ?_ | refine ak ?_ | refine ab ?_ | refine al ?_ | ((first | refine ar ?_ | refine ad ty_mix (by kernel_rfl) ?_ | refine ac ?_ | refine ae ?_ | with_reducible refine Later.mk ?_); simp only [evD, evL, iteL, S.arg.eq_12, S.asL.eq_6, St.said, St.asked, evStep, evOp, evP, St.init, St.app, srcStep, kill, setMany, loadS, fieldS, buildS, toks, Fin, upd_app, Array.isEmpty, Nat.reduceLT, Nat.reduceAdd, Nat.reduceMul, Nat.reduceLeDiff, Nat.reduceSub, Nat.reduceEqDiff, reduceCtorEq, reduceIte, ↓Opt.is, ↓Opt.no, ↓Asks.yes, ↓Asks.no, tyL, encL, getE h, encE, z3, b1, b2, asB]))
        refine Ab.ret ?_; simp only [evD, evL, iteL, S.arg.eq_12, S.asL.eq_6, St.said, St.asked, evStep, evOp, evP, St.init, St.app, srcStep, kill, setMany, loadS, fieldS, buildS, toks, Fin, upd_app, Array.isEmpty, Nat.reduceLT, Nat.reduceAdd, Nat.reduceMul, Nat.reduceLeDiff, Nat.reduceSub, Nat.reduceEqDiff, reduceCtorEq, reduceIte, ↓Opt.is, ↓Opt.no, ↓Asks.yes, ↓Asks.no, tyL, List.nodup_cons, encL, Tryd.f109, hr]
      · have b2 : (p[i].b == b) = false := beq_eq_false_iff_ne.2 h2
        repeat (first | refine aq ?_ | refine ap (by rfl : apartB 0 _ _ = true) ?_ | refine ak ?_ | refine ab ?_ | refine al ?_ | ((first | refine ar ?_ | refine ad ty_mix (by kernel_rfl) ?_ | refine ac ?_ | refine ae ?_ | with_reducible refine Later.mk ?_); simp only [evD, evL, iteL, S.arg.eq_12, S.asL.eq_6, St.said, St.asked, evStep, evOp, evP, St.init, St.app, srcStep, kill, setMany, loadS, fieldS, buildS, toks, Fin, upd_app, Array.isEmpty, Nat.reduceLT, Nat.reduceAdd, Nat.reduceMul, Nat.reduceLeDiff, Nat.reduceSub, Nat.reduceEqDiff, reduceCtorEq, reduceIte, ↓Opt.is, ↓Opt.no, ↓Asks.yes, ↓Asks.no, tyL, encL, getE h, encE, z3, b1, b2, hw, asB]))
        refine ⟨h, ?_, ?_⟩
        · rw [hB, decide_eq_false h2, Bool.and_false]
        ((first | refine Le.mk rfl ?_ ?_ | refine LeTo.mk rfl ?_ ?_) <;> simp only [evD, evL, iteL, S.arg.eq_12, S.asL.eq_6, St.said, St.asked, evStep, evOp, evP, St.init, St.app, srcStep, kill, setMany, loadS, fieldS, buildS, toks, Fin, upd_app, Array.isEmpty, Nat.reduceLT, Nat.reduceAdd, Nat.reduceMul, Nat.reduceLeDiff, Nat.reduceSub, Nat.reduceEqDiff, reduceCtorEq, reduceIte, ↓Opt.is, ↓Opt.no, ↓Asks.yes, ↓Asks.no, tyL, encL, leL, leD, ne_eq])
    · have b1 : (p[i].a == a) = false := beq_eq_false_iff_ne.2 h1
      repeat (first | refine aq ?_ | refine ap (by rfl : apartB 0 _ _ = true) ?_ | refine ak ?_ | refine ab ?_ | refine al ?_ | ((first | refine ar ?_ | refine ad ty_mix (by kernel_rfl) ?_ | refine ac ?_ | refine ae ?_ | with_reducible refine Later.mk ?_); simp only [evD, evL, iteL, S.arg.eq_12, S.asL.eq_6, St.said, St.asked, evStep, evOp, evP, St.init, St.app, srcStep, kill, setMany, loadS, fieldS, buildS, toks, Fin, upd_app, Array.isEmpty, Nat.reduceLT, Nat.reduceAdd, Nat.reduceMul, Nat.reduceLeDiff, Nat.reduceSub, Nat.reduceEqDiff, reduceCtorEq, reduceIte, ↓Opt.is, ↓Opt.no, ↓Asks.yes, ↓Asks.no, tyL, encL, getE h, encE, z3, b1, hw, asB]))
      refine ⟨h, ?_, ?_⟩
      · rw [hB, decide_eq_false h1, Bool.false_and]
      ((first | refine Le.mk rfl ?_ ?_ | refine LeTo.mk rfl ?_ ?_) <;> simp only [evD, evL, iteL, S.arg.eq_12, S.asL.eq_6, St.said, St.asked, evStep, evOp, evP, St.init, St.app, srcStep, kill, setMany, loadS, fieldS, buildS, toks, Fin, upd_app, Array.isEmpty, Nat.reduceLT, Nat.reduceAdd, Nat.reduceMul, Nat.reduceLeDiff, Nat.reduceSub, Nat.reduceEqDiff, reduceCtorEq, reduceIte, ↓Opt.is, ↓Opt.no, ↓Asks.yes, ↓Asks.no, tyL, encL, leL, leD, ne_eq])
  · have h : i = p.length := by have := of_decide_eq_false h; omega
    subst h
    rw [List.take_length] at hA
    have hr : isPr p a b = false := hA
    repeat (first | refine aq ?_ | refine ap (by rfl : apartB 0 _ _ = true) ?_ | refine ak ?_ | refine ab ?_ | refine al ?_ | ((first | refine ar ?_ | refine ad ty_mix (by kernel_rfl) ?_ | refine ac ?_ | refine ae ?_ | with_reducible refine Later.mk ?_); simp only [evD, evL, iteL, S.arg.eq_12, S.asL.eq_6, St.said, St.asked, evStep, evOp, evP, St.init, St.app, srcStep, kill, setMany, loadS, fieldS, buildS, toks, Fin, upd_app, Array.isEmpty, Nat.reduceLT, Nat.reduceAdd, Nat.reduceMul, Nat.reduceLeDiff, Nat.reduceSub, Nat.reduceEqDiff, reduceCtorEq, reduceIte, ↓Opt.is, ↓Opt.no, ↓Asks.yes, ↓Asks.no, tyL, encL, asB]))
    refine Ab.ret ?_; simp only [evD, evL, iteL, S.arg.eq_12, S.asL.eq_6, St.said, St.asked, evStep, evOp, evP, St.init, St.app, srcStep, kill, setMany, loadS, fieldS, buildS, toks, Fin, upd_app, Array.isEmpty, Nat.reduceLT, Nat.reduceAdd, Nat.reduceMul, Nat.reduceLeDiff, Nat.reduceSub, Nat.reduceEqDiff, reduceCtorEq, reduceIte, ↓Opt.is, ↓Opt.no, ↓Asks.yes, ↓Asks.no, tyL, List.nodup_cons, encL, Tryd.f109, hr]
def encTf (b : Bool) : List D := [.v (.bool b)]
theorem getTf {g : List Bool} {i : Nat} (h : i < g.length) : (g.map encTf)[i]? = some [.v (.bool (g.getD i false))] := by
  rw [List.getD_eq_getElem?_getD, List.getElem?_map, List.getElem?_eq_getElem h]
  rfl
theorem setTf (g : List Bool) (x : Nat) : (g.map encTf).set x [.v (.bool true)] = (g.set x true).map encTf := by
  rw [List.map_set]
  rfl
theorem specIsValidPreference_a {n : Int} {l p : List Edg} (gE : (eSlice eEdg).good l) (gP : (eSlice eEdg).good p) (hl : l.length ≤ 1048576) (hp : p.length ≤ 1048576) : AC Tryd.prog 106 [.d (.v (.int .i64 n)), .d (encEs l), .d (encEs p)] (.d (.v (.bool (prfOk n l p)))) := by
  have hc1 := specAreValidEdges_a (n := n) gE
  unfold prfOk
  rcases Bool.eq_false_or_eq_true (validE n l) with hd | hd
  · obtain ⟨m, rfl, hm, hok⟩ := validE_ok hd
    rw [hd] at hc1 ⊢
    rw [Int.toNat_natCast, Bool.true_and]
    refine AC.intro Tryd.func106 rfl (by decide) (by simp [S.res, S.ress]) (by simp [S.os, S.oss]) (by simp [S.wfs, S.wf, dbS]) (by simp [Tryd.f106]) ?_; rw [Tryd.ntmps106]
    repeat (first | refine aq ?_ | refine ap (by rfl : apartB 0 _ _ = true) ?_ | refine ak ?_ | refine ab ?_ | refine al ?_ | ((first | refine ar ?_ | refine ad ty_mix (by kernel_rfl) ?_ | refine ac ?_ | refine ae ?_ | with_reducible refine Later.mk ?_); simp only [evD, evL, iteL, S.arg.eq_12, S.asL.eq_6, St.said, St.asked, evStep, evOp, evP, St.init, St.app, srcStep, kill, setMany, loadS, fieldS, buildS, toks, Fin, upd_app, Array.isEmpty, Nat.reduceLT, Nat.reduceAdd, Nat.reduceMul, Nat.reduceLeDiff, Nat.reduceSub, Nat.reduceEqDiff, reduceCtorEq, reduceIte, ↓Opt.is, ↓Opt.no, ↓Asks.yes, ↓Asks.no, tyL, encL, asB]))
    refine ⟨_, hc1, ?_⟩; (repeat (first | refine ap (by rfl : apartB 0 _ _ = true) ?_ | refine ap (by simp [osL, D.flat]) ?_)); repeat (first | refine aq ?_ | refine ap (by rfl : apartB 0 _ _ = true) ?_ | refine ak ?_ | refine ab ?_ | refine al ?_ | ((first | refine ar ?_ | refine ad ty_mix (by kernel_rfl) ?_ | refine ac ?_ | refine ae ?_ | with_reducible refine Later.mk ?_); simp only [evD, evL, iteL, S.arg.eq_12, S.asL.eq_6, St.said, St.asked, evStep, evOp, evP, St.init, St.app, srcStep, kill, setMany, loadS, fieldS, buildS, toks, Fin, upd_app, Array.isEmpty, Nat.reduceLT, Nat.reduceAdd, Nat.reduceMul, Nat.reduceLeDiff, Nat.reduceSub, Nat.reduceEqDiff, reduceCtorEq, reduceIte, ↓Opt.is, ↓Opt.no, ↓Asks.yes, ↓Asks.no, tyL, encL, asB]))
    refine Ab.loopI p.length (fun i => prE m l (p.take i) = true) (fun i => mkS 102 [(0, .d (.v (.int .i64 (m : Int)))), (1, .d (.sl (List.map encE l))), (2, .d (.sl (List.map encE p))), (7, .d (.v (.int .i64 (i : Int))))] [] 96) rfl ?_ ?_
    · ((first | refine Le.mk rfl ?_ ?_ | refine LeTo.mk rfl ?_ ?_) <;> simp only [evD, evL, iteL, S.arg.eq_12, S.asL.eq_6, St.said, St.asked, evStep, evOp, evP, St.init, St.app, srcStep, kill, setMany, loadS, fieldS, buildS, toks, Fin, upd_app, Array.isEmpty, Nat.reduceLT, Nat.reduceAdd, Nat.reduceMul, Nat.reduceLeDiff, Nat.reduceSub, Nat.reduceEqDiff, reduceCtorEq, reduceIte, ↓Opt.is, ↓Opt.no, ↓Asks.yes, ↓Asks.no, tyL, encL, leL, leD, ne_eq])
    intro i hi hpr
    repeat (first | refine aq ?_ | refine ap (by rfl : apartB 0 _ _ = true) ?_ | refine ak ?_ | refine ab ?_ | refine al ?_ | ((first | refine ar ?_ | refine ad ty_mix (by kernel_rfl) ?_ | refine ac ?_ | refine ae ?_ | with_reducible refine Later.mk ?_); simp only [evD, evL, iteL, S.arg.eq_12, S.asL.eq_6, St.said, St.asked, evStep, evOp, evP, St.init, St.app, srcStep, kill, setMany, loadS, fieldS, buildS, toks, Fin, upd_app, Array.isEmpty, Nat.reduceLT, Nat.reduceAdd, Nat.reduceMul, Nat.reduceLeDiff, Nat.reduceSub, Nat.reduceEqDiff, reduceCtorEq, reduceIte, ↓Opt.is, ↓Opt.no, ↓Asks.yes, ↓Asks.no, tyL, encL, mkS, updl, asB]))
    refine ⟨fun h => ?_, fun h => ?_⟩
    · have h : i < p.length := by simpa using h
      have hw := wrapN h (by omega)
      have z3 : ∀ x : Nat, (0 ≤ (x : Int)) = True := fun x => eq_true (by omega)
      have he := has_edge hok p[i].a p[i].b
      have hce := l28Edge_a gE p[i].a p[i].b hl
      have hpr2 : prE m l (p.take (i + 1)) = (prE m l (p.take i) && hasPE m l p[i].a p[i].b) := all_snoc p _ h
      rw [hpr, Bool.true_and, he] at hpr2
      by_cases h1 : p[i].a = p[i].b
      · have b1 : (p[i].a == p[i].b) = true := beq_iff_eq.2 h1
        have hpf : prE m l p = false := by
          unfold prE
          rw [List.all_eq_false]
          exact ⟨p[i], List.getElem_mem h, by rw [he, decide_eq_true h1]; simp⟩
        rw [hpf]
        repeat (first | refine aq ?_ | refine ap (by rfl : apartB 0 _ _ = true) ?_ | refine ak ?_ | refine ab ?_ | refine al ?_ | ((first | refine ar ?_ | refine ad ty_mix (by kernel_rfl) ?_ | refine ac ?_ | refine ae ?_ | with_reducible refine Later.mk ?_); simp only [evD, evL, iteL, S.arg.eq_12, S.asL.eq_6, St.said, St.asked, evStep, evOp, evP, St.init, St.app, srcStep, kill, setMany, loadS, fieldS, buildS, toks, Fin, upd_app, Array.isEmpty, Nat.reduceLT, Nat.reduceAdd, Nat.reduceMul, Nat.reduceLeDiff, Nat.reduceSub, Nat.reduceEqDiff, reduceCtorEq, reduceIte, ↓Opt.is, ↓Opt.no, ↓Asks.yes, ↓Asks.no, tyL, encL, getE h, encE, z3, b1, asB]))
        refine Ab.ret ?_; simp only [evD, evL, iteL, S.arg.eq_12, S.asL.eq_6, St.said, St.asked, evStep, evOp, evP, St.init, St.app, srcStep, kill, setMany, loadS, fieldS, buildS, toks, Fin, upd_app, Array.isEmpty, Nat.reduceLT, Nat.reduceAdd, Nat.reduceMul, Nat.reduceLeDiff, Nat.reduceSub, Nat.reduceEqDiff, reduceCtorEq, reduceIte, ↓Opt.is, ↓Opt.no, ↓Asks.yes, ↓Asks.no, tyL, List.nodup_cons, encL, Tryd.f106]
      · have b1 : (p[i].a == p[i].b) = false := beq_eq_false_iff_ne.2 h1
        rw [decide_eq_false h1, Bool.not_false, Bool.true_and] at hpr2 he
        rcases Bool.eq_false_or_eq_true (edgeP l p[i].a p[i].b) with h2 | h2 <;> rw [h2] at hce hpr2 he
        · repeat (first | refine aq ?_ | refine ap (by rfl : apartB 0 _ _ = true) ?_ | refine ak ?_ | refine ab ?_ | refine al ?_ | ((first | refine ar ?_ | refine ad ty_mix (by kernel_rfl) ?_ | refine ac ?_ | refine ae ?_ | with_reducible refine Later.mk ?_); simp only [evD, evL, iteL, S.arg.eq_12, S.asL.eq_6, St.said, St.asked, evStep, evOp, evP, St.init, St.app, srcStep, kill, setMany, loadS, fieldS, buildS, toks, Fin, upd_app, Array.isEmpty, Nat.reduceLT, Nat.reduceAdd, Nat.reduceMul, Nat.reduceLeDiff, Nat.reduceSub, Nat.reduceEqDiff, reduceCtorEq, reduceIte, ↓Opt.is, ↓Opt.no, ↓Asks.yes, ↓Asks.no, tyL, encL, getE h, encE, z3, b1, asB]))
          refine ⟨_, hce, ?_⟩; (repeat (first | refine ap (by rfl : apartB 0 _ _ = true) ?_ | refine ap (by simp [osL, D.flat]) ?_)); repeat (first | refine aq ?_ | refine ap (by rfl : apartB 0 _ _ = true) ?_ | refine ak ?_ | refine ab ?_ | refine al ?_ | ((first | refine ar ?_ | refine ad ty_mix (by kernel_rfl) ?_ | refine ac ?_ | refine ae ?_ | with_reducible refine Later.mk ?_); simp only [evD, evL, iteL, S.arg.eq_12, S.asL.eq_6, St.said, St.asked, evStep, evOp, evP, St.init, St.app, srcStep, kill, setMany, loadS, fieldS, buildS, toks, Fin, upd_app, Array.isEmpty, Nat.reduceLT, Nat.reduceAdd, Nat.reduceMul, Nat.reduceLeDiff, Nat.reduceSub, Nat.reduceEqDiff, reduceCtorEq, reduceIte, ↓Opt.is, ↓Opt.no, ↓Asks.yes, ↓Asks.no, tyL, encL, getE h, encE, z3, b1, hw, asB]))
          refine ⟨h, hpr2, ?_⟩
          ((first | refine Le.mk rfl ?_ ?_ | refine LeTo.mk rfl ?_ ?_) <;> simp only [evD, evL, iteL, S.arg.eq_12, S.asL.eq_6, St.said, St.asked, evStep, evOp, evP, St.init, St.app, srcStep, kill, setMany, loadS, fieldS, buildS, toks, Fin, upd_app, Array.isEmpty, Nat.reduceLT, Nat.reduceAdd, Nat.reduceMul, Nat.reduceLeDiff, Nat.reduceSub, Nat.reduceEqDiff, reduceCtorEq, reduceIte, ↓Opt.is, ↓Opt.no, ↓Asks.yes, ↓Asks.no, tyL, encL, leL, leD, ne_eq])
        · have hpf : prE m l p = false := by
            unfold prE
            rw [List.all_eq_false]
            exact ⟨p[i], List.getElem_mem h, by rw [he]; simp⟩
          rw [hpf]
          repeat (first | refine aq ?_ | refine ap (by rfl : apartB 0 _ _ = true) ?_ | refine ak ?_ | refine ab ?_ | refine al ?_ | ((first | refine ar ?_ | refine ad ty_mix (by kernel_rfl) ?_ | refine ac ?_ | refine ae ?_ | with_reducible refine Later.mk ?_); simp only [evD, evL, iteL, S.arg.eq_12, S.asL.eq_6, St.said, St.asked, evStep, evOp, evP, St.init, St.app, srcStep, kill, setMany, loadS, fieldS, buildS, toks, Fin, upd_app, Array.isEmpty, Nat.reduceLT, Nat.reduceAdd, Nat.reduceMul, Nat.reduceLeDiff, Nat.reduceSub, Nat.reduceEqDiff, reduceCtorEq, reduceIte, ↓Opt.is, ↓Opt.no, ↓Asks.yes, ↓Asks.no, tyL, encL, getE h, encE, z3, b1, asB]))
          refine ⟨_, hce, ?_⟩; (repeat (first | refine ap (by rfl : apartB 0 _ _ = true) ?_ | refine ap (by simp [osL, D.flat]) ?_)); repeat (first | refine aq ?_ | refine ap (by rfl : apartB 0 _ _ = true) ?_ | refine ak ?_ | refine ab ?_ | refine al ?_ | ((first | refine ar ?_ | refine ad ty_mix (by kernel_rfl) ?_ | refine ac ?_ | refine ae ?_ | with_reducible refine Later.mk ?_); simp only [evD, evL, iteL, S.arg.eq_12, S.asL.eq_6, St.said, St.asked, evStep, evOp, evP, St.init, St.app, srcStep, kill, setMany, loadS, fieldS, buildS, toks, Fin, upd_app, Array.isEmpty, Nat.reduceLT, Nat.reduceAdd, Nat.reduceMul, Nat.reduceLeDiff, Nat.reduceSub, Nat.reduceEqDiff, reduceCtorEq, reduceIte, ↓Opt.is, ↓Opt.no, ↓Asks.yes, ↓Asks.no, tyL, encL, getE h, encE, z3, b1, asB]))
          refine Ab.ret ?_; simp only [evD, evL, iteL, S.arg.eq_12, S.asL.eq_6, St.said, St.asked, evStep, evOp, evP, St.init, St.app, srcStep, kill, setMany, loadS, fieldS, buildS, toks, Fin, upd_app, Array.isEmpty, Nat.reduceLT, Nat.reduceAdd, Nat.reduceMul, Nat.reduceLeDiff, Nat.reduceSub, Nat.reduceEqDiff, reduceCtorEq, reduceIte, ↓Opt.is, ↓Opt.no, ↓Asks.yes, ↓Asks.no, tyL, List.nodup_cons, encL, Tryd.f106]
    · have h : i = p.length := by have := of_decide_eq_false h; omega
      subst h
      rw [List.take_length] at hpr
      have hoP := prE_ok hpr
      rw [hpr, Bool.true_and]
      repeat (first | refine aq ?_ | refine ap (by rfl : apartB 0 _ _ = true) ?_ | refine ak ?_ | refine ab ?_ | refine al ?_ | ((first | refine ar ?_ | refine ad ty_mix (by kernel_rfl) ?_ | refine ac ?_ | refine ae ?_ | with_reducible refine Later.mk ?_); simp only [evD, evL, iteL, S.arg.eq_12, S.asL.eq_6, St.said, St.asked, evStep, evOp, evP, St.init, St.app, srcStep, kill, setMany, loadS, fieldS, buildS, toks, Fin, upd_app, Array.isEmpty, Nat.reduceLT, Nat.reduceAdd, Nat.reduceMul, Nat.reduceLeDiff, Nat.reduceSub, Nat.reduceEqDiff, reduceCtorEq, reduceIte, ↓Opt.is, ↓Opt.no, ↓Asks.yes, ↓Asks.no, tyL, encL, asB]))
      refine ⟨by simp [D.flat], by omega, by simp only [maxLen]; omega, ?_⟩
      repeat (first | refine aq ?_ | refine ap (by rfl : apartB 0 _ _ = true) ?_ | refine ak ?_ | refine ab ?_ | refine al ?_ | ((first | refine ar ?_ | refine ad ty_mix (by kernel_rfl) ?_ | refine ac ?_ | refine ae ?_ | with_reducible refine Later.mk ?_); simp only [evD, evL, iteL, S.arg.eq_12, S.asL.eq_6, St.said, St.asked, evStep, evOp, evP, St.init, St.app, srcStep, kill, setMany, loadS, fieldS, buildS, toks, Fin, upd_app, Array.isEmpty, Nat.reduceLT, Nat.reduceAdd, Nat.reduceMul, Nat.reduceLeDiff, Nat.reduceSub, Nat.reduceEqDiff, reduceCtorEq, reduceIte, ↓Opt.is, ↓Opt.no, ↓Asks.yes, ↓Asks.no, tyL, encL, asB]))
      refine Ab.loopI m (fun _ => True) (fun k => mkS 102 [(0, .d (.v (.int .i64 (m : Int)))), (2, .d (.sl (List.map encE p))), (8, .m 176), (9, .d (.v (.int .i64 (k : Int))))] [(176, .arr true 4 1 ((rdG p m k).map encTf))] 224) trivial ?_ ?_
      · ((first | refine Le.mk rfl ?_ ?_ | refine LeTo.mk rfl ?_ ?_) <;> simp only [evD, evL, iteL, S.arg.eq_12, S.asL.eq_6, St.said, St.asked, evStep, evOp, evP, St.init, St.app, srcStep, kill, setMany, loadS, fieldS, buildS, toks, Fin, upd_app, Array.isEmpty, Nat.reduceLT, Nat.reduceAdd, Nat.reduceMul, Nat.reduceLeDiff, Nat.reduceSub, Nat.reduceEqDiff, reduceCtorEq, reduceIte, ↓Opt.is, ↓Opt.no, ↓Asks.yes, ↓Asks.no, tyL, encL, leL, leD, ne_eq, rdG, List.map_replicate, encTf])
      intro k hk _
      repeat (first | refine aq ?_ | refine ap (by rfl : apartB 0 _ _ = true) ?_ | refine ak ?_ | refine ab ?_ | refine al ?_ | ((first | refine ar ?_ | refine ad ty_mix (by kernel_rfl) ?_ | refine ac ?_ | refine ae ?_ | with_reducible refine Later.mk ?_); simp only [evD, evL, iteL, S.arg.eq_12, S.asL.eq_6, St.said, St.asked, evStep, evOp, evP, St.init, St.app, srcStep, kill, setMany, loadS, fieldS, buildS, toks, Fin, upd_app, Array.isEmpty, Nat.reduceLT, Nat.reduceAdd, Nat.reduceMul, Nat.reduceLeDiff, Nat.reduceSub, Nat.reduceEqDiff, reduceCtorEq, reduceIte, ↓Opt.is, ↓Opt.no, ↓Asks.yes, ↓Asks.no, tyL, encL, mkS, updl, asB]))
      refine ⟨fun h => ?_, fun h => ?_⟩
      · have h : k < m := by simpa using h
        have hw := wrapN h (by omega)
        have hgl := rdG_len p m k
        have hst : rdG p m (k + 1) = swG p (rdG p m k) m := rfl
        generalize rdG p m k = g at *
        repeat (first | refine aq ?_ | refine ap (by rfl : apartB 0 _ _ = true) ?_ | refine ak ?_ | refine ab ?_ | refine al ?_ | ((first | refine ar ?_ | refine ad ty_mix (by kernel_rfl) ?_ | refine ac ?_ | refine ae ?_ | with_reducible refine Later.mk ?_); simp only [evD, evL, iteL, S.arg.eq_12, S.asL.eq_6, St.said, St.asked, evStep, evOp, evP, St.init, St.app, srcStep, kill, setMany, loadS, fieldS, buildS, toks, Fin, upd_app, Array.isEmpty, Nat.reduceLT, Nat.reduceAdd, Nat.reduceMul, Nat.reduceLeDiff, Nat.reduceSub, Nat.reduceEqDiff, reduceCtorEq, reduceIte, ↓Opt.is, ↓Opt.no, ↓Asks.yes, ↓Asks.no, tyL, encL, asB]))
        refine Ab.loopI m (fun _ => True) (fun x => mkS 102 [(0, .d (.v (.int .i64 (m : Int)))), (2, .d (.sl (List.map encE p))), (8, .m 176), (9, .d (.v (.int .i64 (k : Int)))), (10, .d (.v (.int .i64 (x : Int))))] [(176, .arr true 4 1 ((swG p g x).map encTf))] 256) trivial ?_ ?_
        · ((first | refine Le.mk rfl ?_ ?_ | refine LeTo.mk rfl ?_ ?_) <;> simp only [evD, evL, iteL, S.arg.eq_12, S.asL.eq_6, St.said, St.asked, evStep, evOp, evP, St.init, St.app, srcStep, kill, setMany, loadS, fieldS, buildS, toks, Fin, upd_app, Array.isEmpty, Nat.reduceLT, Nat.reduceAdd, Nat.reduceMul, Nat.reduceLeDiff, Nat.reduceSub, Nat.reduceEqDiff, reduceCtorEq, reduceIte, ↓Opt.is, ↓Opt.no, ↓Asks.yes, ↓Asks.no, tyL, encL, leL, leD, ne_eq, swG])
        intro x hx _
        repeat (first | refine aq ?_ | refine ap (by rfl : apartB 0 _ _ = true) ?_ | refine ak ?_ | refine ab ?_ | refine al ?_ | ((first | refine ar ?_ | refine ad ty_mix (by kernel_rfl) ?_ | refine ac ?_ | refine ae ?_ | with_reducible refine Later.mk ?_); simp only [evD, evL, iteL, S.arg.eq_12, S.asL.eq_6, St.said, St.asked, evStep, evOp, evP, St.init, St.app, srcStep, kill, setMany, loadS, fieldS, buildS, toks, Fin, upd_app, Array.isEmpty, Nat.reduceLT, Nat.reduceAdd, Nat.reduceMul, Nat.reduceLeDiff, Nat.reduceSub, Nat.reduceEqDiff, reduceCtorEq, reduceIte, ↓Opt.is, ↓Opt.no, ↓Asks.yes, ↓Asks.no, tyL, encL, mkS, updl, asB]))
        refine ⟨fun h2 => ?_, fun h2 => ?_⟩
        · have h2 : x < m := by simpa using h2
          have hw2 := wrapN h2 (by omega)
          have hsl := swG_len p g x
          have hst2 : swG p g (x + 1) = if freeG p (swG p g x) x = true then (swG p g x).set x true else swG p g x := rfl
          generalize swG p g x = G at *
          repeat (first | refine aq ?_ | refine ap (by rfl : apartB 0 _ _ = true) ?_ | refine ak ?_ | refine ab ?_ | refine al ?_ | ((first | refine ar ?_ | refine ad ty_mix (by kernel_rfl) ?_ | refine ac ?_ | refine ae ?_ | with_reducible refine Later.mk ?_); simp only [evD, evL, iteL, S.arg.eq_12, S.asL.eq_6, St.said, St.asked, evStep, evOp, evP, St.init, St.app, srcStep, kill, setMany, loadS, fieldS, buildS, toks, Fin, upd_app, Array.isEmpty, Nat.reduceLT, Nat.reduceAdd, Nat.reduceMul, Nat.reduceLeDiff, Nat.reduceSub, Nat.reduceEqDiff, reduceCtorEq, reduceIte, ↓Opt.is, ↓Opt.no, ↓Asks.yes, ↓Asks.no, tyL, encL, asB]))
          refine Ab.loopI p.length (fun _ => True) (fun i => mkS 102 [(0, .d (.v (.int .i64 (m : Int)))), (2, .d (.sl (List.map encE p))), (8, .m 176), (9, .d (.v (.int .i64 (k : Int)))), (10, .d (.v (.int .i64 (x : Int)))), (11, .d (.v (.bool ((p.take i).all fun e => !decide (e.b = (x : Int)) || G.getD e.a.toNat false)))), (12, .d (.v (.int .i64 (i : Int))))] [(176, .arr true 4 1 (G.map encTf))] 288) trivial ?_ ?_
          · ((first | refine Le.mk rfl ?_ ?_ | refine LeTo.mk rfl ?_ ?_) <;> simp only [evD, evL, iteL, S.arg.eq_12, S.asL.eq_6, St.said, St.asked, evStep, evOp, evP, St.init, St.app, srcStep, kill, setMany, loadS, fieldS, buildS, toks, Fin, upd_app, Array.isEmpty, Nat.reduceLT, Nat.reduceAdd, Nat.reduceMul, Nat.reduceLeDiff, Nat.reduceSub, Nat.reduceEqDiff, reduceCtorEq, reduceIte, ↓Opt.is, ↓Opt.no, ↓Asks.yes, ↓Asks.no, tyL, encL, leL, leD, ne_eq, List.take_zero, List.all_nil])
          intro i hi _
          repeat (first | refine aq ?_ | refine ap (by rfl : apartB 0 _ _ = true) ?_ | refine ak ?_ | refine ab ?_ | refine al ?_ | ((first | refine ar ?_ | refine ad ty_mix (by kernel_rfl) ?_ | refine ac ?_ | refine ae ?_ | with_reducible refine Later.mk ?_); simp only [evD, evL, iteL, S.arg.eq_12, S.asL.eq_6, St.said, St.asked, evStep, evOp, evP, St.init, St.app, srcStep, kill, setMany, loadS, fieldS, buildS, toks, Fin, upd_app, Array.isEmpty, Nat.reduceLT, Nat.reduceAdd, Nat.reduceMul, Nat.reduceLeDiff, Nat.reduceSub, Nat.reduceEqDiff, reduceCtorEq, reduceIte, ↓Opt.is, ↓Opt.no, ↓Asks.yes, ↓Asks.no, tyL, encL, mkS, updl, asB]))
          refine ⟨fun h3 => ?_, fun h3 => ?_⟩
          · have h3 : i < p.length := by simpa using h3
            have hw3 := wrapN h3 (by omega)
            have z3 : ∀ x : Nat, (0 ≤ (x : Int)) = True := fun x => eq_true (by omega)
            have hst3 := all_snoc p (fun e => !decide (e.b = (x : Int)) || G.getD e.a.toNat false) h3
            have hoe := hoP _ (List.getElem_mem h3)
            obtain ⟨a, ha⟩ : ∃ a : Nat, p[i].a = (a : Int) := ⟨p[i].a.toNat, by omega⟩
            rw [ha, Int.toNat_natCast] at hst3
            have hga := getTf (g := G) (i := a) (by omega)
            have z1 : (a < G.length) = True := eq_true (by omega)
            rcases Bool.eq_false_or_eq_true ((p.take i).all fun e => !decide (e.b = (x : Int)) || G.getD e.a.toNat false) with c1 | c1 <;> rw [c1] at hst3 ⊢
            · by_cases c2 : p[i].b = (x : Int)
              · have b2 : (p[i].b != (x : Int)) = false := by rw [c2]; exact bne_self_eq_false _
                rw [decide_eq_true c2] at hst3
                simp only [Bool.not_true, Bool.false_or, Bool.true_and] at hst3
                repeat (first | refine aq ?_ | refine ap (by rfl : apartB 0 _ _ = true) ?_ | refine ak ?_ | refine ab ?_ | refine al ?_ | ((first | refine ar ?_ | refine ad ty_mix (by kernel_rfl) ?_ | refine ac ?_ | refine ae ?_ | with_reducible refine Later.mk ?_); simp only [evD, evL, iteL, S.arg.eq_12, S.asL.eq_6, St.said, St.asked, evStep, evOp, evP, St.init, St.app, srcStep, kill, setMany, loadS, fieldS, buildS, toks, Fin, upd_app, Array.isEmpty, Nat.reduceLT, Nat.reduceAdd, Nat.reduceMul, Nat.reduceLeDiff, Nat.reduceSub, Nat.reduceEqDiff, reduceCtorEq, reduceIte, ↓Opt.is, ↓Opt.no, ↓Asks.yes, ↓Asks.no, tyL, encL, getE h3, encE, ha, hga, z1, z3, List.length_map, Int.toNat_natCast, if_true, b2, hw3, asB]))
                refine ⟨h3, ?_⟩
                ((first | refine Le.mk rfl ?_ ?_ | refine LeTo.mk rfl ?_ ?_) <;> simp only [evD, evL, iteL, S.arg.eq_12, S.asL.eq_6, St.said, St.asked, evStep, evOp, evP, St.init, St.app, srcStep, kill, setMany, loadS, fieldS, buildS, toks, Fin, upd_app, Array.isEmpty, Nat.reduceLT, Nat.reduceAdd, Nat.reduceMul, Nat.reduceLeDiff, Nat.reduceSub, Nat.reduceEqDiff, reduceCtorEq, reduceIte, ↓Opt.is, ↓Opt.no, ↓Asks.yes, ↓Asks.no, tyL, encL, leL, leD, ne_eq, hst3])
              · have b2 : (p[i].b != (x : Int)) = true := bne_iff_ne.2 c2
                rw [decide_eq_false c2] at hst3
                simp only [Bool.not_false, Bool.true_or, Bool.true_and] at hst3
                repeat (first | refine aq ?_ | refine ap (by rfl : apartB 0 _ _ = true) ?_ | refine ak ?_ | refine ab ?_ | refine al ?_ | ((first | refine ar ?_ | refine ad ty_mix (by kernel_rfl) ?_ | refine ac ?_ | refine ae ?_ | with_reducible refine Later.mk ?_); simp only [evD, evL, iteL, S.arg.eq_12, S.asL.eq_6, St.said, St.asked, evStep, evOp, evP, St.init, St.app, srcStep, kill, setMany, loadS, fieldS, buildS, toks, Fin, upd_app, Array.isEmpty, Nat.reduceLT, Nat.reduceAdd, Nat.reduceMul, Nat.reduceLeDiff, Nat.reduceSub, Nat.reduceEqDiff, reduceCtorEq, reduceIte, ↓Opt.is, ↓Opt.no, ↓Asks.yes, ↓Asks.no, tyL, encL, getE h3, encE, ha, hga, z1, z3, List.length_map, Int.toNat_natCast, if_true, b2, hw3, asB]))
                refine ⟨h3, ?_⟩
                ((first | refine Le.mk rfl ?_ ?_ | refine LeTo.mk rfl ?_ ?_) <;> simp only [evD, evL, iteL, S.arg.eq_12, S.asL.eq_6, St.said, St.asked, evStep, evOp, evP, St.init, St.app, srcStep, kill, setMany, loadS, fieldS, buildS, toks, Fin, upd_app, Array.isEmpty, Nat.reduceLT, Nat.reduceAdd, Nat.reduceMul, Nat.reduceLeDiff, Nat.reduceSub, Nat.reduceEqDiff, reduceCtorEq, reduceIte, ↓Opt.is, ↓Opt.no, ↓Asks.yes, ↓Asks.no, tyL, encL, leL, leD, ne_eq, hst3])
            · repeat (first | refine aq ?_ | refine ap (by rfl : apartB 0 _ _ = true) ?_ | refine ak ?_ | refine ab ?_ | refine al ?_ | ((first | refine ar ?_ | refine ad ty_mix (by kernel_rfl) ?_ | refine ac ?_ | refine ae ?_ | with_reducible refine Later.mk ?_); simp only [evD, evL, iteL, S.arg.eq_12, S.asL.eq_6, St.said, St.asked, evStep, evOp, evP, St.init, St.app, srcStep, kill, setMany, loadS, fieldS, buildS, toks, Fin, upd_app, Array.isEmpty, Nat.reduceLT, Nat.reduceAdd, Nat.reduceMul, Nat.reduceLeDiff, Nat.reduceSub, Nat.reduceEqDiff, reduceCtorEq, reduceIte, ↓Opt.is, ↓Opt.no, ↓Asks.yes, ↓Asks.no, tyL, encL, getE h3, encE, ha, hga, z1, z3, List.length_map, Int.toNat_natCast, if_true, hw3, asB]))
              refine ⟨h3, ?_⟩
              ((first | refine Le.mk rfl ?_ ?_ | refine LeTo.mk rfl ?_ ?_) <;> simp only [evD, evL, iteL, S.arg.eq_12, S.asL.eq_6, St.said, St.asked, evStep, evOp, evP, St.init, St.app, srcStep, kill, setMany, loadS, fieldS, buildS, toks, Fin, upd_app, Array.isEmpty, Nat.reduceLT, Nat.reduceAdd, Nat.reduceMul, Nat.reduceLeDiff, Nat.reduceSub, Nat.reduceEqDiff, reduceCtorEq, reduceIte, ↓Opt.is, ↓Opt.no, ↓Asks.yes, ↓Asks.no, tyL, encL, leL, leD, ne_eq, hst3])
          · have h3 : i = p.length := by have := of_decide_eq_false h3; omega
            subst h3
            have hfr : (p.all fun e => !decide (e.b = (x : Int)) || G.getD e.a.toNat false) = freeG p G x := rfl
            rw [List.take_length, hfr]
            have z3 : ∀ x : Nat, (0 ≤ (x : Int)) = True := fun x => eq_true (by omega)
            have z1 : (x < G.length) = True := eq_true (by omega)
            have hss := setTf G x
            have hgx := getTf (g := G) (i := x) (by omega)
            rcases Bool.eq_false_or_eq_true (freeG p G x) with c1 | c1 <;> rw [c1] at hst2 ⊢
            · rw [if_pos rfl] at hst2
              repeat (first | refine aq ?_ | refine ap (by rfl : apartB 0 _ _ = true) ?_ | refine ak ?_ | refine ab ?_ | refine al ?_ | ((first | refine ar ?_ | refine ad ty_mix (by kernel_rfl) ?_ | refine ac ?_ | refine ae ?_ | with_reducible refine Later.mk ?_); simp only [evD, evL, iteL, S.arg.eq_12, S.asL.eq_6, St.said, St.asked, evStep, evOp, evP, St.init, St.app, srcStep, kill, setMany, loadS, fieldS, buildS, toks, Fin, upd_app, Array.isEmpty, Nat.reduceLT, Nat.reduceAdd, Nat.reduceMul, Nat.reduceLeDiff, Nat.reduceSub, Nat.reduceEqDiff, reduceCtorEq, reduceIte, ↓Opt.is, ↓Opt.no, ↓Asks.yes, ↓Asks.no, tyL, encL, z1, z3, List.length_map, Int.toNat_natCast, if_true, hss, hgx, hw2, asB]))
              refine ⟨h2, ?_⟩
              ((first | refine Le.mk rfl ?_ ?_ | refine LeTo.mk rfl ?_ ?_) <;> simp only [evD, evL, iteL, S.arg.eq_12, S.asL.eq_6, St.said, St.asked, evStep, evOp, evP, St.init, St.app, srcStep, kill, setMany, loadS, fieldS, buildS, toks, Fin, upd_app, Array.isEmpty, Nat.reduceLT, Nat.reduceAdd, Nat.reduceMul, Nat.reduceLeDiff, Nat.reduceSub, Nat.reduceEqDiff, reduceCtorEq, reduceIte, ↓Opt.is, ↓Opt.no, ↓Asks.yes, ↓Asks.no, tyL, encL, leL, leD, ne_eq, hst2])
            · rw [if_neg (by simp)] at hst2
              repeat (first | refine aq ?_ | refine ap (by rfl : apartB 0 _ _ = true) ?_ | refine ak ?_ | refine ab ?_ | refine al ?_ | ((first | refine ar ?_ | refine ad ty_mix (by kernel_rfl) ?_ | refine ac ?_ | refine ae ?_ | with_reducible refine Later.mk ?_); simp only [evD, evL, iteL, S.arg.eq_12, S.asL.eq_6, St.said, St.asked, evStep, evOp, evP, St.init, St.app, srcStep, kill, setMany, loadS, fieldS, buildS, toks, Fin, upd_app, Array.isEmpty, Nat.reduceLT, Nat.reduceAdd, Nat.reduceMul, Nat.reduceLeDiff, Nat.reduceSub, Nat.reduceEqDiff, reduceCtorEq, reduceIte, ↓Opt.is, ↓Opt.no, ↓Asks.yes, ↓Asks.no, tyL, encL, hw2, asB]))
              refine ⟨h2, ?_⟩
              ((first | refine Le.mk rfl ?_ ?_ | refine LeTo.mk rfl ?_ ?_) <;> simp only [evD, evL, iteL, S.arg.eq_12, S.asL.eq_6, St.said, St.asked, evStep, evOp, evP, St.init, St.app, srcStep, kill, setMany, loadS, fieldS, buildS, toks, Fin, upd_app, Array.isEmpty, Nat.reduceLT, Nat.reduceAdd, Nat.reduceMul, Nat.reduceLeDiff, Nat.reduceSub, Nat.reduceEqDiff, reduceCtorEq, reduceIte, ↓Opt.is, ↓Opt.no, ↓Asks.yes, ↓Asks.no, tyL, encL, leL, leD, ne_eq, hst2])
        · have h2 : x = m := by have := of_decide_eq_false h2; omega
          subst h2
          repeat (first | refine aq ?_ | refine ap (by rfl : apartB 0 _ _ = true) ?_ | refine ak ?_ | refine ab ?_ | refine al ?_ | ((first | refine ar ?_ | refine ad ty_mix (by kernel_rfl) ?_ | refine ac ?_ | refine ae ?_ | with_reducible refine Later.mk ?_); simp only [evD, evL, iteL, S.arg.eq_12, S.asL.eq_6, St.said, St.asked, evStep, evOp, evP, St.init, St.app, srcStep, kill, setMany, loadS, fieldS, buildS, toks, Fin, upd_app, Array.isEmpty, Nat.reduceLT, Nat.reduceAdd, Nat.reduceMul, Nat.reduceLeDiff, Nat.reduceSub, Nat.reduceEqDiff, reduceCtorEq, reduceIte, ↓Opt.is, ↓Opt.no, ↓Asks.yes, ↓Asks.no, tyL, encL, hw, asB]))
          refine ⟨h, ?_⟩
          ((first | refine Le.mk rfl ?_ ?_ | refine LeTo.mk rfl ?_ ?_) <;> simp only [evD, evL, iteL, S.arg.eq_12, S.asL.eq_6, St.said, St.asked, evStep, evOp, evP, St.init, St.app, srcStep, kill, setMany, loadS, fieldS, buildS, toks, Fin, upd_app, Array.isEmpty, Nat.reduceLT, Nat.reduceAdd, Nat.reduceMul, Nat.reduceLeDiff, Nat.reduceSub, Nat.reduceEqDiff, reduceCtorEq, reduceIte, ↓Opt.is, ↓Opt.no, ↓Asks.yes, ↓Asks.no, tyL, encL, leL, leD, ne_eq, hst])
      · have h : k = m := by have := of_decide_eq_false h; omega
        subst h
        have hgl := rdG_len p k k
        unfold allG
        generalize rdG p k k = g at *
        repeat (first | refine aq ?_ | refine ap (by rfl : apartB 0 _ _ = true) ?_ | refine ak ?_ | refine ab ?_ | refine al ?_ | ((first | refine ar ?_ | refine ad ty_mix (by kernel_rfl) ?_ | refine ac ?_ | refine ae ?_ | with_reducible refine Later.mk ?_); simp only [evD, evL, iteL, S.arg.eq_12, S.asL.eq_6, St.said, St.asked, evStep, evOp, evP, St.init, St.app, srcStep, kill, setMany, loadS, fieldS, buildS, toks, Fin, upd_app, Array.isEmpty, Nat.reduceLT, Nat.reduceAdd, Nat.reduceMul, Nat.reduceLeDiff, Nat.reduceSub, Nat.reduceEqDiff, reduceCtorEq, reduceIte, ↓Opt.is, ↓Opt.no, ↓Asks.yes, ↓Asks.no, tyL, encL, asB]))
        refine Ab.loopI g.length (fun x => ((g.take x).all fun b => b) = true) (fun x => mkS 102 [(0, .d (.v (.int .i64 (k : Int)))), (8, .m 176), (13, .d (.v (.int .i64 (x : Int))))] [(176, .arr true 4 1 (g.map encTf))] 288) rfl ?_ ?_
        · ((first | refine Le.mk rfl ?_ ?_ | refine LeTo.mk rfl ?_ ?_) <;> simp only [evD, evL, iteL, S.arg.eq_12, S.asL.eq_6, St.said, St.asked, evStep, evOp, evP, St.init, St.app, srcStep, kill, setMany, loadS, fieldS, buildS, toks, Fin, upd_app, Array.isEmpty, Nat.reduceLT, Nat.reduceAdd, Nat.reduceMul, Nat.reduceLeDiff, Nat.reduceSub, Nat.reduceEqDiff, reduceCtorEq, reduceIte, ↓Opt.is, ↓Opt.no, ↓Asks.yes, ↓Asks.no, tyL, encL, leL, leD, ne_eq])
        intro x hx hA
        repeat (first | refine aq ?_ | refine ap (by rfl : apartB 0 _ _ = true) ?_ | refine ak ?_ | refine ab ?_ | refine al ?_ | ((first | refine ar ?_ | refine ad ty_mix (by kernel_rfl) ?_ | refine ac ?_ | refine ae ?_ | with_reducible refine Later.mk ?_); simp only [evD, evL, iteL, S.arg.eq_12, S.asL.eq_6, St.said, St.asked, evStep, evOp, evP, St.init, St.app, srcStep, kill, setMany, loadS, fieldS, buildS, toks, Fin, upd_app, Array.isEmpty, Nat.reduceLT, Nat.reduceAdd, Nat.reduceMul, Nat.reduceLeDiff, Nat.reduceSub, Nat.reduceEqDiff, reduceCtorEq, reduceIte, ↓Opt.is, ↓Opt.no, ↓Asks.yes, ↓Asks.no, tyL, encL, mkS, updl, asB]))
        refine ⟨fun h2 => ?_, fun h2 => ?_⟩
        · have h2 : x < g.length := by rw [hgl]; simpa using h2
          have hw2 := wrapN h2 (by omega)
          have hB := all_snoc g (fun b => b) h2
          rw [hA, Bool.true_and] at hB
          have z3 : ∀ x : Nat, (0 ≤ (x : Int)) = True := fun x => eq_true (by omega)
          have z1 : (x < g.length) = True := eq_true h2
          have hgx := getTf h2
          have hge : g.getD x false = g[x] := by rw [List.getD_eq_getElem?_getD, List.getElem?_eq_getElem h2]; rfl
          rw [hge] at hgx
          rcases Bool.eq_false_or_eq_true g[x] with c1 | c1
          · rw [c1] at hgx hB
            repeat (first | refine aq ?_ | refine ap (by rfl : apartB 0 _ _ = true) ?_ | refine ak ?_ | refine ab ?_ | refine al ?_ | ((first | refine ar ?_ | refine ad ty_mix (by kernel_rfl) ?_ | refine ac ?_ | refine ae ?_ | with_reducible refine Later.mk ?_); simp only [evD, evL, iteL, S.arg.eq_12, S.asL.eq_6, St.said, St.asked, evStep, evOp, evP, St.init, St.app, srcStep, kill, setMany, loadS, fieldS, buildS, toks, Fin, upd_app, Array.isEmpty, Nat.reduceLT, Nat.reduceAdd, Nat.reduceMul, Nat.reduceLeDiff, Nat.reduceSub, Nat.reduceEqDiff, reduceCtorEq, reduceIte, ↓Opt.is, ↓Opt.no, ↓Asks.yes, ↓Asks.no, tyL, encL, z1, z3, List.length_map, Int.toNat_natCast, if_true, hgx, hw2, asB]))
            refine ⟨hB, ?_⟩
            ((first | refine Le.mk rfl ?_ ?_ | refine LeTo.mk rfl ?_ ?_) <;> simp only [evD, evL, iteL, S.arg.eq_12, S.asL.eq_6, St.said, St.asked, evStep, evOp, evP, St.init, St.app, srcStep, kill, setMany, loadS, fieldS, buildS, toks, Fin, upd_app, Array.isEmpty, Nat.reduceLT, Nat.reduceAdd, Nat.reduceMul, Nat.reduceLeDiff, Nat.reduceSub, Nat.reduceEqDiff, reduceCtorEq, reduceIte, ↓Opt.is, ↓Opt.no, ↓Asks.yes, ↓Asks.no, tyL, encL, leL, leD, ne_eq])
          · have hr : (g.all fun b => b) = false := List.all_eq_false.2 ⟨g[x], List.getElem_mem h2, by rw [c1]; simp⟩
            rw [c1] at hgx
            repeat (first | refine aq ?_ | refine ap (by rfl : apartB 0 _ _ = true) ?_ | refine ak ?_ | refine ab ?_ | refine al ?_ | ((first | refine ar ?_ | refine ad ty_mix (by kernel_rfl) ?_ | refine ac ?_ | refine ae ?_ | with_reducible refine Later.mk ?_); simp only [evD, evL, iteL, S.arg.eq_12, S.asL.eq_6, St.said, St.asked, evStep, evOp, evP, St.init, St.app, srcStep, kill, setMany, loadS, fieldS, buildS, toks, Fin, upd_app, Array.isEmpty, Nat.reduceLT, Nat.reduceAdd, Nat.reduceMul, Nat.reduceLeDiff, Nat.reduceSub, Nat.reduceEqDiff, reduceCtorEq, reduceIte, ↓Opt.is, ↓Opt.no, ↓Asks.yes, ↓Asks.no, tyL, encL, z1, z3, List.length_map, Int.toNat_natCast, if_true, hgx, asB]))
            refine Ab.ret ?_; simp only [evD, evL, iteL, S.arg.eq_12, S.asL.eq_6, St.said, St.asked, evStep, evOp, evP, St.init, St.app, srcStep, kill, setMany, loadS, fieldS, buildS, toks, Fin, upd_app, Array.isEmpty, Nat.reduceLT, Nat.reduceAdd, Nat.reduceMul, Nat.reduceLeDiff, Nat.reduceSub, Nat.reduceEqDiff, reduceCtorEq, reduceIte, ↓Opt.is, ↓Opt.no, ↓Asks.yes, ↓Asks.no, tyL, List.nodup_cons, encL, Tryd.f106, hr]
        · have h2 : x = g.length := by have := of_decide_eq_false h2; omega
          subst h2
          rw [List.take_length] at hA
          repeat (first | refine aq ?_ | refine ap (by rfl : apartB 0 _ _ = true) ?_ | refine ak ?_ | refine ab ?_ | refine al ?_ | ((first | refine ar ?_ | refine ad ty_mix (by kernel_rfl) ?_ | refine ac ?_ | refine ae ?_ | with_reducible refine Later.mk ?_); simp only [evD, evL, iteL, S.arg.eq_12, S.asL.eq_6, St.said, St.asked, evStep, evOp, evP, St.init, St.app, srcStep, kill, setMany, loadS, fieldS, buildS, toks, Fin, upd_app, Array.isEmpty, Nat.reduceLT, Nat.reduceAdd, Nat.reduceMul, Nat.reduceLeDiff, Nat.reduceSub, Nat.reduceEqDiff, reduceCtorEq, reduceIte, ↓Opt.is, ↓Opt.no, ↓Asks.yes, ↓Asks.no, tyL, encL, asB]))
          refine Ab.ret ?_; simp only [evD, evL, iteL, S.arg.eq_12, S.asL.eq_6, St.said, St.asked, evStep, evOp, evP, St.init, St.app, srcStep, kill, setMany, loadS, fieldS, buildS, toks, Fin, upd_app, Array.isEmpty, Nat.reduceLT, Nat.reduceAdd, Nat.reduceMul, Nat.reduceLeDiff, Nat.reduceSub, Nat.reduceEqDiff, reduceCtorEq, reduceIte, ↓Opt.is, ↓Opt.no, ↓Asks.yes, ↓Asks.no, tyL, List.nodup_cons, encL, Tryd.f106, hA]
  · rw [hd] at hc1 ⊢
    rw [Bool.false_and]
    refine AC.intro Tryd.func106 rfl (by decide) (by simp [S.res, S.ress]) (by simp [S.os, S.oss]) (by simp [S.wfs, S.wf, dbS]) (by simp [Tryd.f106]) ?_; rw [Tryd.ntmps106]
    repeat (first | refine aq ?_ | refine ap (by rfl : apartB 0 _ _ = true) ?_ | refine ak ?_ | refine ab ?_ | refine al ?_ | ((first | refine ar ?_ | refine ad ty_mix (by kernel_rfl) ?_ | refine ac ?_ | refine ae ?_ | with_reducible refine Later.mk ?_); simp only [evD, evL, iteL, S.arg.eq_12, S.asL.eq_6, St.said, St.asked, evStep, evOp, evP, St.init, St.app, srcStep, kill, setMany, loadS, fieldS, buildS, toks, Fin, upd_app, Array.isEmpty, Nat.reduceLT, Nat.reduceAdd, Nat.reduceMul, Nat.reduceLeDiff, Nat.reduceSub, Nat.reduceEqDiff, reduceCtorEq, reduceIte, ↓Opt.is, ↓Opt.no, ↓Asks.yes, ↓Asks.no, tyL, encL, asB]))
    refine ⟨_, hc1, ?_⟩; (repeat (first | refine ap (by rfl : apartB 0 _ _ = true) ?_ | refine ap (by simp [osL, D.flat]) ?_)); repeat (first | refine aq ?_ | refine ap (by rfl : apartB 0 _ _ = true) ?_ | refine ak ?_ | refine ab ?_ | refine al ?_ | ((first | refine ar ?_ | refine ad ty_mix (by kernel_rfl) ?_ | refine ac ?_ | refine ae ?_ | with_reducible refine Later.mk ?_); simp only [evD, evL, iteL, S.arg.eq_12, S.asL.eq_6, St.said, St.asked, evStep, evOp, evP, St.init, St.app, srcStep, kill, setMany, loadS, fieldS, buildS, toks, Fin, upd_app, Array.isEmpty, Nat.reduceLT, Nat.reduceAdd, Nat.reduceMul, Nat.reduceLeDiff, Nat.reduceSub, Nat.reduceEqDiff, reduceCtorEq, reduceIte, ↓Opt.is, ↓Opt.no, ↓Asks.yes, ↓Asks.no, tyL, encL, asB]))
    refine Ab.ret ?_; simp only [evD, evL, iteL, S.arg.eq_12, S.asL.eq_6, St.said, St.asked, evStep, evOp, evP, St.init, St.app, srcStep, kill, setMany, loadS, fieldS, buildS, toks, Fin, upd_app, Array.isEmpty, Nat.reduceLT, Nat.reduceAdd, Nat.reduceMul, Nat.reduceLeDiff, Nat.reduceSub, Nat.reduceEqDiff, reduceCtorEq, reduceIte, ↓Opt.is, ↓Opt.no, ↓Asks.yes, ↓Asks.no, tyL, List.nodup_cons, encL, Tryd.f106]
theorem prf_ok {n : Int} {l p : List Edg} (h : prfOk n l p = true) : validE n l = true ∧ prE n.toNat l p = true ∧ ∃ m : Nat, n = (m : Int) ∧ m ≤ 14 ∧ okN m l ∧ okP m p := by
  unfold prfOk at h
  simp only [Bool.and_eq_true] at h
  obtain ⟨m, rfl, hm, hok⟩ := validE_ok h.1
  exact ⟨h.1, h.2.1, m, rfl, hm, hok, prE_ok h.2.1⟩
end Go.Proofs.YtgipcnofonejcaaDoor.Ab

/- Chapter 28: the facts that none of the others beats. -/
open Go Go.Proofs Go.RowKit
namespace Go.Proofs.YtgipcnofonejcaaDoor.Ab
set_option linter.unusedSimpArgs false
set_option linter.unusedVariables false
set_option maxRecDepth 100000
/-- The answer, on both sides. -/
def udOk (n : Int) (l p : List Edg) (s : List Int) : Bool := prfOk n l p && setIx n s
def udL (n : Int) (l p : List Edg) (s : List Int) : List Int := if udOk n l p s = true then s.filter fun y => s.all fun x => !isPr p x y else []
end Go.Proofs.YtgipcnofonejcaaDoor.Ab
end

section
/- Chapter 28: Pareto-optimal repairs. -/
open Go Go.Proofs Go.RowKit
namespace Go.Proofs.YtgipcnofonejcaaDoor.Ab
set_option linter.unusedSimpArgs false
set_option linter.unusedVariables false
set_option maxRecDepth 100000
def domL (l p : List Edg) (s : List Int) (x : Int) : Bool := s.all fun y => !edgeP l x y || isPr p x y
def parL (n : Nat) (l p : List Edg) (s : List Int) : Bool := (List.range n).all fun x => s.contains (x : Int) || !domL l p s (x : Int)
def parOk (n : Int) (l p : List Edg) (s : List Int) : Bool := prfOk n l p && (maxI n l s && parL n.toNat l p s)
theorem dom_sub {n : Nat} {l p : List Edg} {s : List Int} (hn : n ≤ 14) (hok : okN n l) (hp : okP n p) (hin : InS n l s (bitsI s)) {x : Nat} (hx : x < n) (hns : s.contains (x : Int) = false) : sub ((grf n l).getD x 0 &&& bitsI s) ((wrs n p).getD x 0) ↔ domL l p s (x : Int) = true := by
  have h64 := hin.in64 (by omega)
  rw [sub_iff]
  unfold domL
  rw [List.all_eq_true]
  have he : ∀ y : Nat, (y : Int) ∈ s → edgeP l (x : Int) (y : Int) = adjE l x y := fun y hy => by
    have h1 := has_edge hok (x : Int) (y : Int)
    have h2 := hin.rng _ hy
    have h3 : (x : Int) ≠ (y : Int) := fun e => by
      rw [← e] at hy
      rw [List.contains_iff_mem.2 hy] at hns
      cases hns
    unfold hasPE at h1
    rw [decide_eq_false h3, Bool.not_false, Bool.true_and, decide_eq_true (by omega), decide_eq_true (by omega), decide_eq_true (by omega), decide_eq_true (by omega), Bool.and_self, Bool.true_and, Bool.true_and, Int.toNat_natCast, Int.toNat_natCast] at h1
    exact h1.symm
  constructor
  · intro h y hy
    have h2 := hin.rng y hy
    obtain ⟨v, rfl⟩ : ∃ v : Nat, y = (v : Int) := ⟨y.toNat, by omega⟩
    rw [he v hy]
    cases ha : adjE l x v with
    | false => rfl
    | true =>
      have h3 := h v (by rw [Nat.testBit_and, grf_test hok, ha, bitsI_test s h64, List.contains_iff_mem.2 hy]; rfl)
      rw [wrs_test hp] at h3
      rw [h3]
      rfl
  · intro h v hv
    rw [Nat.testBit_and, grf_test hok, bitsI_test s h64, Bool.and_eq_true] at hv
    have hy := List.contains_iff_mem.1 hv.2
    have h2 := h _ hy
    rw [he v hy, hv.1] at h2
    rw [wrs_test hp]
    simpa using h2
theorem out_mem {n : Nat} {l : List Edg} {s : List Int} (hn : n ≤ 14) (hin : InS n l s (bitsI s)) (x : Int) : x ∈ elemsN 64 (andNot (2 ^ n - 1) (bitsI s)) ↔ ∃ v : Nat, v < n ∧ s.contains (v : Int) = false ∧ x = (v : Int) := by
  have h64 := hin.in64 (by omega)
  rw [elems_mem]
  constructor
  · rintro ⟨v, h1, h2, rfl⟩
    rw [andNot_test, Nat.testBit_two_pow_sub_one, bitsI_test s h64, Bool.and_eq_true, decide_eq_true_eq, Bool.not_eq_true'] at h2
    exact ⟨v, h2.1, h2.2, rfl⟩
  · rintro ⟨v, h1, h2, rfl⟩
    refine ⟨v, by omega, ?_, rfl⟩
    rw [andNot_test, Nat.testBit_two_pow_sub_one, bitsI_test s h64, h2, decide_eq_true h1]
    rfl
theorem par_all {n : Nat} {l p : List Edg} {s : List Int} (hn : n ≤ 14) (hin : InS n l s (bitsI s)) : ((elemsN 64 (andNot (2 ^ n - 1) (bitsI s))).all fun x => !domL l p s x) = parL n l p s := by
  unfold parL
  rw [Bool.eq_iff_iff, List.all_eq_true, List.all_eq_true]
  constructor
  · intro h x hx
    rw [List.mem_range] at hx
    cases hc : s.contains (x : Int) with
    | true => rfl
    | false =>
      have := h (x : Int) ((out_mem hn hin _).2 ⟨x, hx, hc, rfl⟩)
      rw [this]
      rfl
  · intro h x hx
    obtain ⟨v, h1, h2, rfl⟩ := (out_mem hn hin x).1 hx
    have := h v (List.mem_range.2 h1)
    rw [h2, Bool.false_or] at this
    exact this
theorem isPareto_a {n : Nat} {l p : List Edg} {s : List Int} (hn : n ≤ 14) (hok : okN n l) (hp : okP n p) (hin : InS n l s (bitsI s)) : AC Tryd.prog 112 [.a [.d (.sl ((grf n l).map encU)), .d (.sl ((wrs n p).map encU))], .d (.v (.int .u64 (bitsI s : Int)))] (.d (.v (.bool (parL n l p s)))) := by
  have h64 := hin.in64 (by omega)
  have hlt := bitsI_lt s h64
  have hgl := grf_len n l
  have hwl := wrs_len n p
  have hc1 := vertices_a (G := grf n l) (by omega)
  rw [hgl] at hc1
  have h14 := pow14p hn
  have e1 := bAn (a := 2 ^ n - 1) (b := bitsI s) (by omega) hlt
  have hc2 := elements_a (andNot (2 ^ n - 1) (bitsI s)) (andNot_lt _ (by omega))
  have hmem := out_mem hn hin
  have hll := elems_len 64 (andNot (2 ^ n - 1) (bitsI s))
  rw [← par_all hn hin]
  generalize elemsN 64 (andNot (2 ^ n - 1) (bitsI s)) = E at *
  refine AC.intro Tryd.func112 rfl (by decide) (by simp [S.res, S.ress]) (by simp [S.os, S.oss]) (by simp [S.wfs, S.wf, dbS]) (by simp [Tryd.f112]) ?_; rw [Tryd.ntmps112]
  repeat (first | refine aq ?_ | refine ap (by rfl : apartB 0 _ _ = true) ?_ | refine ak ?_ | refine ab ?_ | refine al ?_ | ((first | refine ar ?_ | refine ad ty_mix (by kernel_rfl) ?_ | refine ac ?_ | refine ae ?_ | with_reducible refine Later.mk ?_); simp only [evD, evL, iteL, S.arg.eq_12, S.asL.eq_6, St.said, St.asked, evStep, evOp, evP, St.init, St.app, srcStep, kill, setMany, loadS, fieldS, buildS, toks, Fin, upd_app, Array.isEmpty, Nat.reduceLT, Nat.reduceAdd, Nat.reduceMul, Nat.reduceLeDiff, Nat.reduceSub, Nat.reduceEqDiff, reduceCtorEq, reduceIte, ↓Opt.is, ↓Opt.no, ↓Asks.yes, ↓Asks.no, tyL, encL, asB]))
  refine ⟨_, hc1, ?_⟩; (repeat (first | refine ap (by rfl : apartB 0 _ _ = true) ?_ | refine ap (by simp [osL, D.flat]) ?_)); repeat (first | refine aq ?_ | refine ap (by rfl : apartB 0 _ _ = true) ?_ | refine ak ?_ | refine ab ?_ | refine al ?_ | ((first | refine ar ?_ | refine ad ty_mix (by kernel_rfl) ?_ | refine ac ?_ | refine ae ?_ | with_reducible refine Later.mk ?_); simp only [evD, evL, iteL, S.arg.eq_12, S.asL.eq_6, St.said, St.asked, evStep, evOp, evP, St.init, St.app, srcStep, kill, setMany, loadS, fieldS, buildS, toks, Fin, upd_app, Array.isEmpty, Nat.reduceLT, Nat.reduceAdd, Nat.reduceMul, Nat.reduceLeDiff, Nat.reduceSub, Nat.reduceEqDiff, reduceCtorEq, reduceIte, ↓Opt.is, ↓Opt.no, ↓Asks.yes, ↓Asks.no, tyL, encL, e1, asB]))
  refine ⟨_, hc2, ?_⟩; (repeat (first | refine ap (by rfl : apartB 0 _ _ = true) ?_ | refine ap (by simp [osL, D.flat]) ?_)); repeat (first | refine aq ?_ | refine ap (by rfl : apartB 0 _ _ = true) ?_ | refine ak ?_ | refine ab ?_ | refine al ?_ | ((first | refine ar ?_ | refine ad ty_mix (by kernel_rfl) ?_ | refine ac ?_ | refine ae ?_ | with_reducible refine Later.mk ?_); simp only [evD, evL, iteL, S.arg.eq_12, S.asL.eq_6, St.said, St.asked, evStep, evOp, evP, St.init, St.app, srcStep, kill, setMany, loadS, fieldS, buildS, toks, Fin, upd_app, Array.isEmpty, Nat.reduceLT, Nat.reduceAdd, Nat.reduceMul, Nat.reduceLeDiff, Nat.reduceSub, Nat.reduceEqDiff, reduceCtorEq, reduceIte, ↓Opt.is, ↓Opt.no, ↓Asks.yes, ↓Asks.no, tyL, encL, asB]))
  have hglt := fun i => grf_lt hok (by omega : n ≤ 64) i
  have hwlt := fun i => wrs_lt hp (by omega : n ≤ 64) i
  have hds := fun (x : Nat) (h1 : x < n) (h2 : s.contains (x : Int) = false) => dom_sub hn hok hp hin h1 h2
  generalize grf n l = G at *
  generalize wrs n p = W at *
  refine Ab.loopI E.length (fun i => ((E.take i).all fun x => !domL l p s x) = true) (fun i => mkS 34 [(1, .d (.v (.int .u64 (bitsI s : Int)))), (2, .p 0 0), (13, .o 112 (.sl (List.map encI E))), (14, .d (.v (.int .i64 (E.length : Int)))), (15, .d (.v (.int .i64 (i : Int))))] [(0, .box [.d (.sl (List.map encU G)), .d (.sl (List.map encU W))]), (112, .tok (.sl (List.map encI E)))] 160) rfl ?_ ?_
  · ((first | refine Le.mk rfl ?_ ?_ | refine LeTo.mk rfl ?_ ?_) <;> simp only [evD, evL, iteL, S.arg.eq_12, S.asL.eq_6, St.said, St.asked, evStep, evOp, evP, St.init, St.app, srcStep, kill, setMany, loadS, fieldS, buildS, toks, Fin, upd_app, Array.isEmpty, Nat.reduceLT, Nat.reduceAdd, Nat.reduceMul, Nat.reduceLeDiff, Nat.reduceSub, Nat.reduceEqDiff, reduceCtorEq, reduceIte, ↓Opt.is, ↓Opt.no, ↓Asks.yes, ↓Asks.no, tyL, encL, leL, leD, ne_eq])
  intro i hi hA
  repeat (first | refine aq ?_ | refine ap (by rfl : apartB 0 _ _ = true) ?_ | refine ak ?_ | refine ab ?_ | refine al ?_ | ((first | refine ar ?_ | refine ad ty_mix (by kernel_rfl) ?_ | refine ac ?_ | refine ae ?_ | with_reducible refine Later.mk ?_); simp only [evD, evL, iteL, S.arg.eq_12, S.asL.eq_6, St.said, St.asked, evStep, evOp, evP, St.init, St.app, srcStep, kill, setMany, loadS, fieldS, buildS, toks, Fin, upd_app, Array.isEmpty, Nat.reduceLT, Nat.reduceAdd, Nat.reduceMul, Nat.reduceLeDiff, Nat.reduceSub, Nat.reduceEqDiff, reduceCtorEq, reduceIte, ↓Opt.is, ↓Opt.no, ↓Asks.yes, ↓Asks.no, tyL, encL, mkS, updl, asB]))
  refine ⟨fun h => ?_, fun h => ?_⟩
  · have h : i < E.length := by simpa using h
    have hw := wrapN h (by omega)
    have hst := all_snoc E (fun x => !domL l p s x) h
    rw [hA, Bool.true_and] at hst
    obtain ⟨v, h1, h2, h3⟩ := (hmem E[i]).1 (List.getElem_mem h)
    have hd := hds v h1 h2
    have e2 := bAnd (G.getD v 0) (bitsI s) (hglt v) hlt
    have hand : G.getD v 0 &&& bitsI s < 18446744073709551616 := Nat.lt_of_le_of_lt Nat.and_le_right hlt
    have hgq := getG (G := G) (i := v) (by omega)
    have hgw := getG (G := W) (i := v) (by omega)
    have z1 : (v < G.length) = True := eq_true (by omega)
    have z2 : (v < W.length) = True := eq_true (by omega)
    have z3 : ∀ x : Nat, (0 ≤ (x : Int)) = True := fun x => eq_true (by omega)
    have hsub := isSubsetOf_a (G.getD v 0 &&& bitsI s) (W.getD v 0) hand (hwlt v)
    rw [h3] at hst
    rcases Bool.eq_false_or_eq_true (domL l p s (v : Int)) with c1 | c1
    · rw [decide_eq_true (hd.2 c1)] at hsub
      have hr : (E.all fun x => !domL l p s x) = false := List.all_eq_false.2 ⟨E[i], List.getElem_mem h, by rw [h3, c1]; simp⟩
      rw [hr]
      repeat (first | refine aq ?_ | refine ap (by rfl : apartB 0 _ _ = true) ?_ | refine ak ?_ | refine ab ?_ | refine al ?_ | ((first | refine ar ?_ | refine ad ty_mix (by kernel_rfl) ?_ | refine ac ?_ | refine ae ?_ | with_reducible refine Later.mk ?_); simp only [evD, evL, iteL, S.arg.eq_12, S.asL.eq_6, St.said, St.asked, evStep, evOp, evP, St.init, St.app, srcStep, kill, setMany, loadS, fieldS, buildS, toks, Fin, upd_app, Array.isEmpty, Nat.reduceLT, Nat.reduceAdd, Nat.reduceMul, Nat.reduceLeDiff, Nat.reduceSub, Nat.reduceEqDiff, reduceCtorEq, reduceIte, ↓Opt.is, ↓Opt.no, ↓Asks.yes, ↓Asks.no, tyL, encL, getI h, h3, hgq, hgw, z1, z2, z3, Int.toNat_natCast, if_true, List.length_map, e2, asB]))
      refine ⟨_, hsub, ?_⟩; (repeat (first | refine ap (by rfl : apartB 0 _ _ = true) ?_ | refine ap (by simp [osL, D.flat]) ?_)); repeat (first | refine aq ?_ | refine ap (by rfl : apartB 0 _ _ = true) ?_ | refine ak ?_ | refine ab ?_ | refine al ?_ | ((first | refine ar ?_ | refine ad ty_mix (by kernel_rfl) ?_ | refine ac ?_ | refine ae ?_ | with_reducible refine Later.mk ?_); simp only [evD, evL, iteL, S.arg.eq_12, S.asL.eq_6, St.said, St.asked, evStep, evOp, evP, St.init, St.app, srcStep, kill, setMany, loadS, fieldS, buildS, toks, Fin, upd_app, Array.isEmpty, Nat.reduceLT, Nat.reduceAdd, Nat.reduceMul, Nat.reduceLeDiff, Nat.reduceSub, Nat.reduceEqDiff, reduceCtorEq, reduceIte, ↓Opt.is, ↓Opt.no, ↓Asks.yes, ↓Asks.no, tyL, encL, asB]))
      refine Ab.ret ?_; simp only [evD, evL, iteL, S.arg.eq_12, S.asL.eq_6, St.said, St.asked, evStep, evOp, evP, St.init, St.app, srcStep, kill, setMany, loadS, fieldS, buildS, toks, Fin, upd_app, Array.isEmpty, Nat.reduceLT, Nat.reduceAdd, Nat.reduceMul, Nat.reduceLeDiff, Nat.reduceSub, Nat.reduceEqDiff, reduceCtorEq, reduceIte, ↓Opt.is, ↓Opt.no, ↓Asks.yes, ↓Asks.no, tyL, List.nodup_cons, encL, Tryd.f112]
    · rw [decide_eq_false (fun e => by rw [hd.1 e] at c1; cases c1)] at hsub
      rw [c1] at hst
      repeat (first | refine aq ?_ | refine ap (by rfl : apartB 0 _ _ = true) ?_ | refine ak ?_ | refine ab ?_ | refine al ?_ | ((first | refine ar ?_ | refine ad ty_mix (by kernel_rfl) ?_ | refine ac ?_ | refine ae ?_ | with_reducible refine Later.mk ?_); simp only [evD, evL, iteL, S.arg.eq_12, S.asL.eq_6, St.said, St.asked, evStep, evOp, evP, St.init, St.app, srcStep, kill, setMany, loadS, fieldS, buildS, toks, Fin, upd_app, Array.isEmpty, Nat.reduceLT, Nat.reduceAdd, Nat.reduceMul, Nat.reduceLeDiff, Nat.reduceSub, Nat.reduceEqDiff, reduceCtorEq, reduceIte, ↓Opt.is, ↓Opt.no, ↓Asks.yes, ↓Asks.no, tyL, encL, getI h, h3, hgq, hgw, z1, z2, z3, Int.toNat_natCast, if_true, List.length_map, e2, asB]))
      refine ⟨_, hsub, ?_⟩; (repeat (first | refine ap (by rfl : apartB 0 _ _ = true) ?_ | refine ap (by simp [osL, D.flat]) ?_)); repeat (first | refine aq ?_ | refine ap (by rfl : apartB 0 _ _ = true) ?_ | refine ak ?_ | refine ab ?_ | refine al ?_ | ((first | refine ar ?_ | refine ad ty_mix (by kernel_rfl) ?_ | refine ac ?_ | refine ae ?_ | with_reducible refine Later.mk ?_); simp only [evD, evL, iteL, S.arg.eq_12, S.asL.eq_6, St.said, St.asked, evStep, evOp, evP, St.init, St.app, srcStep, kill, setMany, loadS, fieldS, buildS, toks, Fin, upd_app, Array.isEmpty, Nat.reduceLT, Nat.reduceAdd, Nat.reduceMul, Nat.reduceLeDiff, Nat.reduceSub, Nat.reduceEqDiff, reduceCtorEq, reduceIte, ↓Opt.is, ↓Opt.no, ↓Asks.yes, ↓Asks.no, tyL, encL, hw, asB]))
      refine ⟨h, hst, ?_⟩
      ((first | refine Le.mk rfl ?_ ?_ | refine LeTo.mk rfl ?_ ?_) <;> simp only [evD, evL, iteL, S.arg.eq_12, S.asL.eq_6, St.said, St.asked, evStep, evOp, evP, St.init, St.app, srcStep, kill, setMany, loadS, fieldS, buildS, toks, Fin, upd_app, Array.isEmpty, Nat.reduceLT, Nat.reduceAdd, Nat.reduceMul, Nat.reduceLeDiff, Nat.reduceSub, Nat.reduceEqDiff, reduceCtorEq, reduceIte, ↓Opt.is, ↓Opt.no, ↓Asks.yes, ↓Asks.no, tyL, encL, leL, leD, ne_eq])
  · have h : i = E.length := by have := of_decide_eq_false h; omega
    subst h
    rw [List.take_length] at hA
    repeat (first | refine aq ?_ | refine ap (by rfl : apartB 0 _ _ = true) ?_ | refine ak ?_ | refine ab ?_ | refine al ?_ | ((first | refine ar ?_ | refine ad ty_mix (by kernel_rfl) ?_ | refine ac ?_ | refine ae ?_ | with_reducible refine Later.mk ?_); simp only [evD, evL, iteL, S.arg.eq_12, S.asL.eq_6, St.said, St.asked, evStep, evOp, evP, St.init, St.app, srcStep, kill, setMany, loadS, fieldS, buildS, toks, Fin, upd_app, Array.isEmpty, Nat.reduceLT, Nat.reduceAdd, Nat.reduceMul, Nat.reduceLeDiff, Nat.reduceSub, Nat.reduceEqDiff, reduceCtorEq, reduceIte, ↓Opt.is, ↓Opt.no, ↓Asks.yes, ↓Asks.no, tyL, encL, asB]))
    refine Ab.ret ?_; simp only [evD, evL, iteL, S.arg.eq_12, S.asL.eq_6, St.said, St.asked, evStep, evOp, evP, St.init, St.app, srcStep, kill, setMany, loadS, fieldS, buildS, toks, Fin, upd_app, Array.isEmpty, Nat.reduceLT, Nat.reduceAdd, Nat.reduceMul, Nat.reduceLeDiff, Nat.reduceSub, Nat.reduceEqDiff, reduceCtorEq, reduceIte, ↓Opt.is, ↓Opt.no, ↓Asks.yes, ↓Asks.no, tyL, List.nodup_cons, encL, Tryd.f112, hA]
theorem implIsParetoOptimal_a {n : Int} {l p : List Edg} {s : List Int} (gE : (eSlice eEdg).good l) (gP : (eSlice eEdg).good p) (gI : (eSlice eInt).good s) (hl : l.length ≤ 1048576) (hp : p.length ≤ 1048576) (hs : s.length ≤ 1048576) : AC Tryd.prog 66 [.d (.v (.int .i64 n)), .d (encEs l), .d (encEs p), .d (encIs s)] (.d (.v (.bool (parOk n l p s)))) := by
  have hc := newPref_a (n := n) gE gP hl hp
  have hc2 := implIsMaximalIndependent_a (n := n) gE gI hl hs
  unfold parOk
  rcases Bool.eq_false_or_eq_true (prfOk n l p) with hd | hd
  · rcases Bool.eq_false_or_eq_true (maxI n l s) with hd2 | hd2
    · obtain ⟨h1, h2, m, rfl, hm, hok, hoP⟩ := prf_ok hd
      have hd3 := hd2
      unfold maxI at hd3
      rw [Bool.and_eq_true] at hd3
      obtain ⟨_, _, _, m', e, _, _, hin⟩ := ex_facts hd3.1
      have e : m' = m := by omega
      subst e
      have hc3 := bitSetOf_a s hs (hin.in64 (by omega))
      have hc4 := isPareto_a hm hok hoP hin
      rw [hd2] at hc2
      rw [hd] at hc
      unfold prG at hc
      rw [h1, h2, Bool.and_self, if_pos rfl, Int.toNat_natCast] at hc
      rw [hd, hd2, Bool.true_and, Bool.true_and, Int.toNat_natCast]
      refine AC.intro Tryd.func66 rfl (by decide) (by simp [S.res, S.ress]) (by simp [S.os, S.oss]) (by simp [S.wfs, S.wf, dbS]) (by simp [Tryd.f66]) ?_; rw [Tryd.ntmps66]
      repeat (first | refine aq ?_ | refine ap (by rfl : apartB 0 _ _ = true) ?_ | refine ak ?_ | refine ab ?_ | refine al ?_ | ((first | refine ar ?_ | refine ad ty_mix (by kernel_rfl) ?_ | refine ac ?_ | refine ae ?_ | with_reducible refine Later.mk ?_); simp only [evD, evL, iteL, S.arg.eq_12, S.asL.eq_6, St.said, St.asked, evStep, evOp, evP, St.init, St.app, srcStep, kill, setMany, loadS, fieldS, buildS, toks, Fin, upd_app, Array.isEmpty, Nat.reduceLT, Nat.reduceAdd, Nat.reduceMul, Nat.reduceLeDiff, Nat.reduceSub, Nat.reduceEqDiff, reduceCtorEq, reduceIte, ↓Opt.is, ↓Opt.no, ↓Asks.yes, ↓Asks.no, tyL, encL, asB]))
      refine ⟨_, hc, ?_⟩; (repeat (first | refine ap (by rfl : apartB 0 _ _ = true) ?_ | refine ap (by simp [osL, D.flat]) ?_)); repeat (first | refine aq ?_ | refine ap (by rfl : apartB 0 _ _ = true) ?_ | refine ak ?_ | refine ab ?_ | refine al ?_ | ((first | refine ar ?_ | refine ad ty_mix (by kernel_rfl) ?_ | refine ac ?_ | refine ae ?_ | with_reducible refine Later.mk ?_); simp only [evD, evL, iteL, S.arg.eq_12, S.asL.eq_6, St.said, St.asked, evStep, evOp, evP, St.init, St.app, srcStep, kill, setMany, loadS, fieldS, buildS, toks, Fin, upd_app, Array.isEmpty, Nat.reduceLT, Nat.reduceAdd, Nat.reduceMul, Nat.reduceLeDiff, Nat.reduceSub, Nat.reduceEqDiff, reduceCtorEq, reduceIte, ↓Opt.is, ↓Opt.no, ↓Asks.yes, ↓Asks.no, tyL, encL, asB]))
      refine ⟨_, hc2, ?_⟩; (repeat (first | refine ap (by rfl : apartB 0 _ _ = true) ?_ | refine ap (by simp [osL, D.flat]) ?_)); repeat (first | refine aq ?_ | refine ap (by rfl : apartB 0 _ _ = true) ?_ | refine ak ?_ | refine ab ?_ | refine al ?_ | ((first | refine ar ?_ | refine ad ty_mix (by kernel_rfl) ?_ | refine ac ?_ | refine ae ?_ | with_reducible refine Later.mk ?_); simp only [evD, evL, iteL, S.arg.eq_12, S.asL.eq_6, St.said, St.asked, evStep, evOp, evP, St.init, St.app, srcStep, kill, setMany, loadS, fieldS, buildS, toks, Fin, upd_app, Array.isEmpty, Nat.reduceLT, Nat.reduceAdd, Nat.reduceMul, Nat.reduceLeDiff, Nat.reduceSub, Nat.reduceEqDiff, reduceCtorEq, reduceIte, ↓Opt.is, ↓Opt.no, ↓Asks.yes, ↓Asks.no, tyL, encL, asB]))
      refine ⟨_, hc3, ?_⟩; (repeat (first | refine ap (by rfl : apartB 0 _ _ = true) ?_ | refine ap (by simp [osL, D.flat]) ?_)); repeat (first | refine aq ?_ | refine ap (by rfl : apartB 0 _ _ = true) ?_ | refine ak ?_ | refine ab ?_ | refine al ?_ | ((first | refine ar ?_ | refine ad ty_mix (by kernel_rfl) ?_ | refine ac ?_ | refine ae ?_ | with_reducible refine Later.mk ?_); simp only [evD, evL, iteL, S.arg.eq_12, S.asL.eq_6, St.said, St.asked, evStep, evOp, evP, St.init, St.app, srcStep, kill, setMany, loadS, fieldS, buildS, toks, Fin, upd_app, Array.isEmpty, Nat.reduceLT, Nat.reduceAdd, Nat.reduceMul, Nat.reduceLeDiff, Nat.reduceSub, Nat.reduceEqDiff, reduceCtorEq, reduceIte, ↓Opt.is, ↓Opt.no, ↓Asks.yes, ↓Asks.no, tyL, encL, asB]))
      refine ⟨_, hc4, ?_⟩; (repeat (first | refine ap (by rfl : apartB 0 _ _ = true) ?_ | refine ap (by simp [osL, D.flat]) ?_)); repeat (first | refine aq ?_ | refine ap (by rfl : apartB 0 _ _ = true) ?_ | refine ak ?_ | refine ab ?_ | refine al ?_ | ((first | refine ar ?_ | refine ad ty_mix (by kernel_rfl) ?_ | refine ac ?_ | refine ae ?_ | with_reducible refine Later.mk ?_); simp only [evD, evL, iteL, S.arg.eq_12, S.asL.eq_6, St.said, St.asked, evStep, evOp, evP, St.init, St.app, srcStep, kill, setMany, loadS, fieldS, buildS, toks, Fin, upd_app, Array.isEmpty, Nat.reduceLT, Nat.reduceAdd, Nat.reduceMul, Nat.reduceLeDiff, Nat.reduceSub, Nat.reduceEqDiff, reduceCtorEq, reduceIte, ↓Opt.is, ↓Opt.no, ↓Asks.yes, ↓Asks.no, tyL, encL, asB]))
      refine Ab.ret ?_; simp only [evD, evL, iteL, S.arg.eq_12, S.asL.eq_6, St.said, St.asked, evStep, evOp, evP, St.init, St.app, srcStep, kill, setMany, loadS, fieldS, buildS, toks, Fin, upd_app, Array.isEmpty, Nat.reduceLT, Nat.reduceAdd, Nat.reduceMul, Nat.reduceLeDiff, Nat.reduceSub, Nat.reduceEqDiff, reduceCtorEq, reduceIte, ↓Opt.is, ↓Opt.no, ↓Asks.yes, ↓Asks.no, tyL, List.nodup_cons, encL, Tryd.f66]
    · rw [hd2] at hc2
      rw [hd] at hc
      rw [hd, hd2, Bool.false_and, Bool.and_false]
      generalize prG n l p = A at *
      refine AC.intro Tryd.func66 rfl (by decide) (by simp [S.res, S.ress]) (by simp [S.os, S.oss]) (by simp [S.wfs, S.wf, dbS]) (by simp [Tryd.f66]) ?_; rw [Tryd.ntmps66]
      repeat (first | refine aq ?_ | refine ap (by rfl : apartB 0 _ _ = true) ?_ | refine ak ?_ | refine ab ?_ | refine al ?_ | ((first | refine ar ?_ | refine ad ty_mix (by kernel_rfl) ?_ | refine ac ?_ | refine ae ?_ | with_reducible refine Later.mk ?_); simp only [evD, evL, iteL, S.arg.eq_12, S.asL.eq_6, St.said, St.asked, evStep, evOp, evP, St.init, St.app, srcStep, kill, setMany, loadS, fieldS, buildS, toks, Fin, upd_app, Array.isEmpty, Nat.reduceLT, Nat.reduceAdd, Nat.reduceMul, Nat.reduceLeDiff, Nat.reduceSub, Nat.reduceEqDiff, reduceCtorEq, reduceIte, ↓Opt.is, ↓Opt.no, ↓Asks.yes, ↓Asks.no, tyL, encL, asB]))
      refine ⟨_, hc, ?_⟩; (repeat (first | refine ap (by rfl : apartB 0 _ _ = true) ?_ | refine ap (by simp [osL, D.flat]) ?_)); repeat (first | refine aq ?_ | refine ap (by rfl : apartB 0 _ _ = true) ?_ | refine ak ?_ | refine ab ?_ | refine al ?_ | ((first | refine ar ?_ | refine ad ty_mix (by kernel_rfl) ?_ | refine ac ?_ | refine ae ?_ | with_reducible refine Later.mk ?_); simp only [evD, evL, iteL, S.arg.eq_12, S.asL.eq_6, St.said, St.asked, evStep, evOp, evP, St.init, St.app, srcStep, kill, setMany, loadS, fieldS, buildS, toks, Fin, upd_app, Array.isEmpty, Nat.reduceLT, Nat.reduceAdd, Nat.reduceMul, Nat.reduceLeDiff, Nat.reduceSub, Nat.reduceEqDiff, reduceCtorEq, reduceIte, ↓Opt.is, ↓Opt.no, ↓Asks.yes, ↓Asks.no, tyL, encL, asB]))
      refine ⟨_, hc2, ?_⟩; (repeat (first | refine ap (by rfl : apartB 0 _ _ = true) ?_ | refine ap (by simp [osL, D.flat]) ?_)); repeat (first | refine aq ?_ | refine ap (by rfl : apartB 0 _ _ = true) ?_ | refine ak ?_ | refine ab ?_ | refine al ?_ | ((first | refine ar ?_ | refine ad ty_mix (by kernel_rfl) ?_ | refine ac ?_ | refine ae ?_ | with_reducible refine Later.mk ?_); simp only [evD, evL, iteL, S.arg.eq_12, S.asL.eq_6, St.said, St.asked, evStep, evOp, evP, St.init, St.app, srcStep, kill, setMany, loadS, fieldS, buildS, toks, Fin, upd_app, Array.isEmpty, Nat.reduceLT, Nat.reduceAdd, Nat.reduceMul, Nat.reduceLeDiff, Nat.reduceSub, Nat.reduceEqDiff, reduceCtorEq, reduceIte, ↓Opt.is, ↓Opt.no, ↓Asks.yes, ↓Asks.no, tyL, encL, asB]))
      refine Ab.ret ?_; simp only [evD, evL, iteL, S.arg.eq_12, S.asL.eq_6, St.said, St.asked, evStep, evOp, evP, St.init, St.app, srcStep, kill, setMany, loadS, fieldS, buildS, toks, Fin, upd_app, Array.isEmpty, Nat.reduceLT, Nat.reduceAdd, Nat.reduceMul, Nat.reduceLeDiff, Nat.reduceSub, Nat.reduceEqDiff, reduceCtorEq, reduceIte, ↓Opt.is, ↓Opt.no, ↓Asks.yes, ↓Asks.no, tyL, List.nodup_cons, encL, Tryd.f66]
  · rw [hd] at hc
    rw [hd, Bool.false_and]
    generalize prG n l p = A at *
    refine AC.intro Tryd.func66 rfl (by decide) (by simp [S.res, S.ress]) (by simp [S.os, S.oss]) (by simp [S.wfs, S.wf, dbS]) (by simp [Tryd.f66]) ?_; rw [Tryd.ntmps66]
    repeat (first | refine aq ?_ | refine ap (by rfl : apartB 0 _ _ = true) ?_ | refine ak ?_ | refine ab ?_ | refine al ?_ | ((first | refine ar ?_ | refine ad ty_mix (by kernel_rfl) ?_ | refine ac ?_ | refine ae ?_ | with_reducible refine Later.mk ?_); simp only [evD, evL, iteL, S.arg.eq_12, S.asL.eq_6, St.said, St.asked, evStep, evOp, evP, St.init, St.app, srcStep, kill, setMany, loadS, fieldS, buildS, toks, Fin, upd_app, Array.isEmpty, Nat.reduceLT, Nat.reduceAdd, Nat.reduceMul, Nat.reduceLeDiff, Nat.reduceSub, Nat.reduceEqDiff, reduceCtorEq, reduceIte, ↓Opt.is, ↓Opt.no, ↓Asks.yes, ↓Asks.no, tyL, encL, asB]))
    refine ⟨_, hc, ?_⟩; (repeat (first | refine ap (by rfl : apartB 0 _ _ = true) ?_ | refine ap (by simp [osL, D.flat]) ?_)); repeat (first | refine aq ?_ | refine ap (by rfl : apartB 0 _ _ = true) ?_ | refine ak ?_ | refine ab ?_ | refine al ?_ | ((first | refine ar ?_ | refine ad ty_mix (by kernel_rfl) ?_ | refine ac ?_ | refine ae ?_ | with_reducible refine Later.mk ?_); simp only [evD, evL, iteL, S.arg.eq_12, S.asL.eq_6, St.said, St.asked, evStep, evOp, evP, St.init, St.app, srcStep, kill, setMany, loadS, fieldS, buildS, toks, Fin, upd_app, Array.isEmpty, Nat.reduceLT, Nat.reduceAdd, Nat.reduceMul, Nat.reduceLeDiff, Nat.reduceSub, Nat.reduceEqDiff, reduceCtorEq, reduceIte, ↓Opt.is, ↓Opt.no, ↓Asks.yes, ↓Asks.no, tyL, encL, asB]))
    refine Ab.ret ?_; simp only [evD, evL, iteL, S.arg.eq_12, S.asL.eq_6, St.said, St.asked, evStep, evOp, evP, St.init, St.app, srcStep, kill, setMany, loadS, fieldS, buildS, toks, Fin, upd_app, Array.isEmpty, Nat.reduceLT, Nat.reduceAdd, Nat.reduceMul, Nat.reduceLeDiff, Nat.reduceSub, Nat.reduceEqDiff, reduceCtorEq, reduceIte, ↓Opt.is, ↓Opt.no, ↓Asks.yes, ↓Asks.no, tyL, List.nodup_cons, encL, Tryd.f66]
theorem specIsParetoOptimal_a {n : Int} {l p : List Edg} {s : List Int} (gE : (eSlice eEdg).good l) (gP : (eSlice eEdg).good p) (gI : (eSlice eInt).good s) (hl : l.length ≤ 1048576) (hp : p.length ≤ 1048576) (hs : s.length ≤ 1048576) : AC Tryd.prog 62 [.d (.v (.int .i64 n)), .d (encEs l), .d (encEs p), .d (encIs s)] (.d (.v (.bool (parOk n l p s)))) := by
  have hc := specIsValidPreference_a (n := n) gE gP hl hp
  have hc2 := specIsMaximalIndependent_a (n := n) gE gI hl hs
  unfold parOk
  rcases Bool.eq_false_or_eq_true (prfOk n l p) with hd | hd
  · rcases Bool.eq_false_or_eq_true (maxI n l s) with hd2 | hd2
    · obtain ⟨h1, h2, m, rfl, hm, hok, hoP⟩ := prf_ok hd
      rw [hd2] at hc2
      rw [hd] at hc
      rw [hd, hd2, Bool.true_and, Bool.true_and, Int.toNat_natCast]
      refine AC.intro Tryd.func62 rfl (by decide) (by simp [S.res, S.ress]) (by simp [S.os, S.oss]) (by simp [S.wfs, S.wf, dbS]) (by simp [Tryd.f62]) ?_; rw [Tryd.ntmps62]
      repeat (first | refine aq ?_ | refine ap (by rfl : apartB 0 _ _ = true) ?_ | refine ak ?_ | refine ab ?_ | refine al ?_ | ((first | refine ar ?_ | refine ad ty_mix (by kernel_rfl) ?_ | refine ac ?_ | refine ae ?_ | with_reducible refine Later.mk ?_); simp only [evD, evL, iteL, S.arg.eq_12, S.asL.eq_6, St.said, St.asked, evStep, evOp, evP, St.init, St.app, srcStep, kill, setMany, loadS, fieldS, buildS, toks, Fin, upd_app, Array.isEmpty, Nat.reduceLT, Nat.reduceAdd, Nat.reduceMul, Nat.reduceLeDiff, Nat.reduceSub, Nat.reduceEqDiff, reduceCtorEq, reduceIte, ↓Opt.is, ↓Opt.no, ↓Asks.yes, ↓Asks.no, tyL, encL, asB]))
      refine ⟨_, hc, ?_⟩; (repeat (first | refine ap (by rfl : apartB 0 _ _ = true) ?_ | refine ap (by simp [osL, D.flat]) ?_)); repeat (first | refine aq ?_ | refine ap (by rfl : apartB 0 _ _ = true) ?_ | refine ak ?_ | refine ab ?_ | refine al ?_ | ((first | refine ar ?_ | refine ad ty_mix (by kernel_rfl) ?_ | refine ac ?_ | refine ae ?_ | with_reducible refine Later.mk ?_); simp only [evD, evL, iteL, S.arg.eq_12, S.asL.eq_6, St.said, St.asked, evStep, evOp, evP, St.init, St.app, srcStep, kill, setMany, loadS, fieldS, buildS, toks, Fin, upd_app, Array.isEmpty, Nat.reduceLT, Nat.reduceAdd, Nat.reduceMul, Nat.reduceLeDiff, Nat.reduceSub, Nat.reduceEqDiff, reduceCtorEq, reduceIte, ↓Opt.is, ↓Opt.no, ↓Asks.yes, ↓Asks.no, tyL, encL, asB]))
      refine ⟨_, hc2, ?_⟩; (repeat (first | refine ap (by rfl : apartB 0 _ _ = true) ?_ | refine ap (by simp [osL, D.flat]) ?_)); repeat (first | refine aq ?_ | refine ap (by rfl : apartB 0 _ _ = true) ?_ | refine ak ?_ | refine ab ?_ | refine al ?_ | ((first | refine ar ?_ | refine ad ty_mix (by kernel_rfl) ?_ | refine ac ?_ | refine ae ?_ | with_reducible refine Later.mk ?_); simp only [evD, evL, iteL, S.arg.eq_12, S.asL.eq_6, St.said, St.asked, evStep, evOp, evP, St.init, St.app, srcStep, kill, setMany, loadS, fieldS, buildS, toks, Fin, upd_app, Array.isEmpty, Nat.reduceLT, Nat.reduceAdd, Nat.reduceMul, Nat.reduceLeDiff, Nat.reduceSub, Nat.reduceEqDiff, reduceCtorEq, reduceIte, ↓Opt.is, ↓Opt.no, ↓Asks.yes, ↓Asks.no, tyL, encL, asB]))
      have hok2 := hok
      have hsn : s.length ≤ 14 := by
        have hd3 := hd2
        unfold maxI exOk at hd3
        simp only [Bool.and_eq_true] at hd3
        have := setIx_len hd3.1.2.1
        omega
      have hI := gI.2
      refine Ab.loopI m (fun x => ((List.range x).all fun x => s.contains (x : Int) || !domL l p s (x : Int)) = true) (fun x => mkS 59 [(0, .d (.v (.int .i64 (m : Int)))), (1, .d (.sl (List.map encE l))), (2, .d (.sl (List.map encE p))), (3, .d (.sl (List.map encI s))), (9, .d (.v (.int .i64 (x : Int))))] [] 224) rfl ?_ ?_
      · ((first | refine Le.mk rfl ?_ ?_ | refine LeTo.mk rfl ?_ ?_) <;> simp only [evD, evL, iteL, S.arg.eq_12, S.asL.eq_6, St.said, St.asked, evStep, evOp, evP, St.init, St.app, srcStep, kill, setMany, loadS, fieldS, buildS, toks, Fin, upd_app, Array.isEmpty, Nat.reduceLT, Nat.reduceAdd, Nat.reduceMul, Nat.reduceLeDiff, Nat.reduceSub, Nat.reduceEqDiff, reduceCtorEq, reduceIte, ↓Opt.is, ↓Opt.no, ↓Asks.yes, ↓Asks.no, tyL, encL, leL, leD, ne_eq])
      intro x hx hA
      repeat (first | refine aq ?_ | refine ap (by rfl : apartB 0 _ _ = true) ?_ | refine ak ?_ | refine ab ?_ | refine al ?_ | ((first | refine ar ?_ | refine ad ty_mix (by kernel_rfl) ?_ | refine ac ?_ | refine ae ?_ | with_reducible refine Later.mk ?_); simp only [evD, evL, iteL, S.arg.eq_12, S.asL.eq_6, St.said, St.asked, evStep, evOp, evP, St.init, St.app, srcStep, kill, setMany, loadS, fieldS, buildS, toks, Fin, upd_app, Array.isEmpty, Nat.reduceLT, Nat.reduceAdd, Nat.reduceMul, Nat.reduceLeDiff, Nat.reduceSub, Nat.reduceEqDiff, reduceCtorEq, reduceIte, ↓Opt.is, ↓Opt.no, ↓Asks.yes, ↓Asks.no, tyL, encL, mkS, updl, asB]))
      refine ⟨fun h => ?_, fun h => ?_⟩
      · have h : x < m := by simpa using h
        have hw := wrapN h (by omega)
        have hc3 := l7Has_a (x := (x : Int)) gI
        have hst : ((List.range (x + 1)).all fun x => s.contains (x : Int) || !domL l p s (x : Int)) = (s.contains (x : Int) || !domL l p s (x : Int)) := by
          rw [List.range_succ, List.all_append, hA, Bool.true_and, List.all_cons, List.all_nil, Bool.and_true]
        rcases Bool.eq_false_or_eq_true (s.contains (x : Int)) with c1 | c1
        · rw [c1] at hc3
          rw [c1, Bool.true_or] at hst
          repeat (first | refine aq ?_ | refine ap (by rfl : apartB 0 _ _ = true) ?_ | refine ak ?_ | refine ab ?_ | refine al ?_ | ((first | refine ar ?_ | refine ad ty_mix (by kernel_rfl) ?_ | refine ac ?_ | refine ae ?_ | with_reducible refine Later.mk ?_); simp only [evD, evL, iteL, S.arg.eq_12, S.asL.eq_6, St.said, St.asked, evStep, evOp, evP, St.init, St.app, srcStep, kill, setMany, loadS, fieldS, buildS, toks, Fin, upd_app, Array.isEmpty, Nat.reduceLT, Nat.reduceAdd, Nat.reduceMul, Nat.reduceLeDiff, Nat.reduceSub, Nat.reduceEqDiff, reduceCtorEq, reduceIte, ↓Opt.is, ↓Opt.no, ↓Asks.yes, ↓Asks.no, tyL, encL, asB]))
          refine ⟨_, hc3, ?_⟩; (repeat (first | refine ap (by rfl : apartB 0 _ _ = true) ?_ | refine ap (by simp [osL, D.flat]) ?_)); repeat (first | refine aq ?_ | refine ap (by rfl : apartB 0 _ _ = true) ?_ | refine ak ?_ | refine ab ?_ | refine al ?_ | ((first | refine ar ?_ | refine ad ty_mix (by kernel_rfl) ?_ | refine ac ?_ | refine ae ?_ | with_reducible refine Later.mk ?_); simp only [evD, evL, iteL, S.arg.eq_12, S.asL.eq_6, St.said, St.asked, evStep, evOp, evP, St.init, St.app, srcStep, kill, setMany, loadS, fieldS, buildS, toks, Fin, upd_app, Array.isEmpty, Nat.reduceLT, Nat.reduceAdd, Nat.reduceMul, Nat.reduceLeDiff, Nat.reduceSub, Nat.reduceEqDiff, reduceCtorEq, reduceIte, ↓Opt.is, ↓Opt.no, ↓Asks.yes, ↓Asks.no, tyL, encL, hw, asB]))
          refine ⟨h, hst, ?_⟩
          ((first | refine Le.mk rfl ?_ ?_ | refine LeTo.mk rfl ?_ ?_) <;> simp only [evD, evL, iteL, S.arg.eq_12, S.asL.eq_6, St.said, St.asked, evStep, evOp, evP, St.init, St.app, srcStep, kill, setMany, loadS, fieldS, buildS, toks, Fin, upd_app, Array.isEmpty, Nat.reduceLT, Nat.reduceAdd, Nat.reduceMul, Nat.reduceLeDiff, Nat.reduceSub, Nat.reduceEqDiff, reduceCtorEq, reduceIte, ↓Opt.is, ↓Opt.no, ↓Asks.yes, ↓Asks.no, tyL, encL, leL, leD, ne_eq])
        · rw [c1] at hc3
          rw [c1, Bool.false_or] at hst
          repeat (first | refine aq ?_ | refine ap (by rfl : apartB 0 _ _ = true) ?_ | refine ak ?_ | refine ab ?_ | refine al ?_ | ((first | refine ar ?_ | refine ad ty_mix (by kernel_rfl) ?_ | refine ac ?_ | refine ae ?_ | with_reducible refine Later.mk ?_); simp only [evD, evL, iteL, S.arg.eq_12, S.asL.eq_6, St.said, St.asked, evStep, evOp, evP, St.init, St.app, srcStep, kill, setMany, loadS, fieldS, buildS, toks, Fin, upd_app, Array.isEmpty, Nat.reduceLT, Nat.reduceAdd, Nat.reduceMul, Nat.reduceLeDiff, Nat.reduceSub, Nat.reduceEqDiff, reduceCtorEq, reduceIte, ↓Opt.is, ↓Opt.no, ↓Asks.yes, ↓Asks.no, tyL, encL, asB]))
          refine ⟨_, hc3, ?_⟩; (repeat (first | refine ap (by rfl : apartB 0 _ _ = true) ?_ | refine ap (by simp [osL, D.flat]) ?_)); repeat (first | refine aq ?_ | refine ap (by rfl : apartB 0 _ _ = true) ?_ | refine ak ?_ | refine ab ?_ | refine al ?_ | ((first | refine ar ?_ | refine ad ty_mix (by kernel_rfl) ?_ | refine ac ?_ | refine ae ?_ | with_reducible refine Later.mk ?_); simp only [evD, evL, iteL, S.arg.eq_12, S.asL.eq_6, St.said, St.asked, evStep, evOp, evP, St.init, St.app, srcStep, kill, setMany, loadS, fieldS, buildS, toks, Fin, upd_app, Array.isEmpty, Nat.reduceLT, Nat.reduceAdd, Nat.reduceMul, Nat.reduceLeDiff, Nat.reduceSub, Nat.reduceEqDiff, reduceCtorEq, reduceIte, ↓Opt.is, ↓Opt.no, ↓Asks.yes, ↓Asks.no, tyL, encL, asB]))
          refine Ab.loopI s.length (fun _ => True) (fun i => mkS 59 [(0, .d (.v (.int .i64 (m : Int)))), (1, .d (.sl (List.map encE l))), (2, .d (.sl (List.map encE p))), (3, .d (.sl (List.map encI s))), (9, .d (.v (.int .i64 (x : Int)))), (10, .d (.v (.bool ((s.take i).all fun y => !edgeP l (x : Int) y || isPr p (x : Int) y)))), (11, .d (.v (.int .i64 (i : Int))))] [] 288) trivial ?_ ?_
          · ((first | refine Le.mk rfl ?_ ?_ | refine LeTo.mk rfl ?_ ?_) <;> simp only [evD, evL, iteL, S.arg.eq_12, S.asL.eq_6, St.said, St.asked, evStep, evOp, evP, St.init, St.app, srcStep, kill, setMany, loadS, fieldS, buildS, toks, Fin, upd_app, Array.isEmpty, Nat.reduceLT, Nat.reduceAdd, Nat.reduceMul, Nat.reduceLeDiff, Nat.reduceSub, Nat.reduceEqDiff, reduceCtorEq, reduceIte, ↓Opt.is, ↓Opt.no, ↓Asks.yes, ↓Asks.no, tyL, encL, leL, leD, ne_eq, List.take_zero, List.all_nil])
          intro i hi _
          repeat (first | refine aq ?_ | refine ap (by rfl : apartB 0 _ _ = true) ?_ | refine ak ?_ | refine ab ?_ | refine al ?_ | ((first | refine ar ?_ | refine ad ty_mix (by kernel_rfl) ?_ | refine ac ?_ | refine ae ?_ | with_reducible refine Later.mk ?_); simp only [evD, evL, iteL, S.arg.eq_12, S.asL.eq_6, St.said, St.asked, evStep, evOp, evP, St.init, St.app, srcStep, kill, setMany, loadS, fieldS, buildS, toks, Fin, upd_app, Array.isEmpty, Nat.reduceLT, Nat.reduceAdd, Nat.reduceMul, Nat.reduceLeDiff, Nat.reduceSub, Nat.reduceEqDiff, reduceCtorEq, reduceIte, ↓Opt.is, ↓Opt.no, ↓Asks.yes, ↓Asks.no, tyL, encL, mkS, updl, asB]))
          refine ⟨fun h2 => ?_, fun h2 => ?_⟩
          · have h2 : i < s.length := by simpa using h2
            have hw2 := wrapN h2 (by omega)
            have hst2 := all_snoc s (fun y => !edgeP l (x : Int) y || isPr p (x : Int) y) h2
            have hce := l28Edge_a gE (x : Int) s[i] hl
            have hcp := isPreferred_a gP (x : Int) s[i] hp
            have z3 : ∀ x : Nat, (0 ≤ (x : Int)) = True := fun x => eq_true (by omega)
            rcases Bool.eq_false_or_eq_true ((s.take i).all fun y => !edgeP l (x : Int) y || isPr p (x : Int) y) with c2 | c2 <;> rw [c2] at hst2 ⊢
            · rw [Bool.true_and] at hst2
              rcases Bool.eq_false_or_eq_true (edgeP l (x : Int) s[i]) with c3 | c3 <;> rw [c3] at hst2 hce
              · simp only [Bool.not_true, Bool.false_or] at hst2
                repeat (first | refine aq ?_ | refine ap (by rfl : apartB 0 _ _ = true) ?_ | refine ak ?_ | refine ab ?_ | refine al ?_ | ((first | refine ar ?_ | refine ad ty_mix (by kernel_rfl) ?_ | refine ac ?_ | refine ae ?_ | with_reducible refine Later.mk ?_); simp only [evD, evL, iteL, S.arg.eq_12, S.asL.eq_6, St.said, St.asked, evStep, evOp, evP, St.init, St.app, srcStep, kill, setMany, loadS, fieldS, buildS, toks, Fin, upd_app, Array.isEmpty, Nat.reduceLT, Nat.reduceAdd, Nat.reduceMul, Nat.reduceLeDiff, Nat.reduceSub, Nat.reduceEqDiff, reduceCtorEq, reduceIte, ↓Opt.is, ↓Opt.no, ↓Asks.yes, ↓Asks.no, tyL, encL, getI h2, z3, asB]))
                refine ⟨_, hce, ?_⟩; (repeat (first | refine ap (by rfl : apartB 0 _ _ = true) ?_ | refine ap (by simp [osL, D.flat]) ?_)); repeat (first | refine aq ?_ | refine ap (by rfl : apartB 0 _ _ = true) ?_ | refine ak ?_ | refine ab ?_ | refine al ?_ | ((first | refine ar ?_ | refine ad ty_mix (by kernel_rfl) ?_ | refine ac ?_ | refine ae ?_ | with_reducible refine Later.mk ?_); simp only [evD, evL, iteL, S.arg.eq_12, S.asL.eq_6, St.said, St.asked, evStep, evOp, evP, St.init, St.app, srcStep, kill, setMany, loadS, fieldS, buildS, toks, Fin, upd_app, Array.isEmpty, Nat.reduceLT, Nat.reduceAdd, Nat.reduceMul, Nat.reduceLeDiff, Nat.reduceSub, Nat.reduceEqDiff, reduceCtorEq, reduceIte, ↓Opt.is, ↓Opt.no, ↓Asks.yes, ↓Asks.no, tyL, encL, getI h2, z3, asB]))
                refine ⟨_, hcp, ?_⟩; (repeat (first | refine ap (by rfl : apartB 0 _ _ = true) ?_ | refine ap (by simp [osL, D.flat]) ?_)); repeat (first | refine aq ?_ | refine ap (by rfl : apartB 0 _ _ = true) ?_ | refine ak ?_ | refine ab ?_ | refine al ?_ | ((first | refine ar ?_ | refine ad ty_mix (by kernel_rfl) ?_ | refine ac ?_ | refine ae ?_ | with_reducible refine Later.mk ?_); simp only [evD, evL, iteL, S.arg.eq_12, S.asL.eq_6, St.said, St.asked, evStep, evOp, evP, St.init, St.app, srcStep, kill, setMany, loadS, fieldS, buildS, toks, Fin, upd_app, Array.isEmpty, Nat.reduceLT, Nat.reduceAdd, Nat.reduceMul, Nat.reduceLeDiff, Nat.reduceSub, Nat.reduceEqDiff, reduceCtorEq, reduceIte, ↓Opt.is, ↓Opt.no, ↓Asks.yes, ↓Asks.no, tyL, encL, getI h2, z3, hw2, asB]))
                refine ⟨h2, ?_⟩
                ((first | refine Le.mk rfl ?_ ?_ | refine LeTo.mk rfl ?_ ?_) <;> simp only [evD, evL, iteL, S.arg.eq_12, S.asL.eq_6, St.said, St.asked, evStep, evOp, evP, St.init, St.app, srcStep, kill, setMany, loadS, fieldS, buildS, toks, Fin, upd_app, Array.isEmpty, Nat.reduceLT, Nat.reduceAdd, Nat.reduceMul, Nat.reduceLeDiff, Nat.reduceSub, Nat.reduceEqDiff, reduceCtorEq, reduceIte, ↓Opt.is, ↓Opt.no, ↓Asks.yes, ↓Asks.no, tyL, encL, leL, leD, ne_eq, hst2])
              · simp only [Bool.not_false, Bool.true_or] at hst2
                repeat (first | refine aq ?_ | refine ap (by rfl : apartB 0 _ _ = true) ?_ | refine ak ?_ | refine ab ?_ | refine al ?_ | ((first | refine ar ?_ | refine ad ty_mix (by kernel_rfl) ?_ | refine ac ?_ | refine ae ?_ | with_reducible refine Later.mk ?_); simp only [evD, evL, iteL, S.arg.eq_12, S.asL.eq_6, St.said, St.asked, evStep, evOp, evP, St.init, St.app, srcStep, kill, setMany, loadS, fieldS, buildS, toks, Fin, upd_app, Array.isEmpty, Nat.reduceLT, Nat.reduceAdd, Nat.reduceMul, Nat.reduceLeDiff, Nat.reduceSub, Nat.reduceEqDiff, reduceCtorEq, reduceIte, ↓Opt.is, ↓Opt.no, ↓Asks.yes, ↓Asks.no, tyL, encL, getI h2, z3, asB]))
                refine ⟨_, hce, ?_⟩; (repeat (first | refine ap (by rfl : apartB 0 _ _ = true) ?_ | refine ap (by simp [osL, D.flat]) ?_)); repeat (first | refine aq ?_ | refine ap (by rfl : apartB 0 _ _ = true) ?_ | refine ak ?_ | refine ab ?_ | refine al ?_ | ((first | refine ar ?_ | refine ad ty_mix (by kernel_rfl) ?_ | refine ac ?_ | refine ae ?_ | with_reducible refine Later.mk ?_); simp only [evD, evL, iteL, S.arg.eq_12, S.asL.eq_6, St.said, St.asked, evStep, evOp, evP, St.init, St.app, srcStep, kill, setMany, loadS, fieldS, buildS, toks, Fin, upd_app, Array.isEmpty, Nat.reduceLT, Nat.reduceAdd, Nat.reduceMul, Nat.reduceLeDiff, Nat.reduceSub, Nat.reduceEqDiff, reduceCtorEq, reduceIte, ↓Opt.is, ↓Opt.no, ↓Asks.yes, ↓Asks.no, tyL, encL, getI h2, z3, hw2, asB]))
                refine ⟨h2, ?_⟩
                ((first | refine Le.mk rfl ?_ ?_ | refine LeTo.mk rfl ?_ ?_) <;> simp only [evD, evL, iteL, S.arg.eq_12, S.asL.eq_6, St.said, St.asked, evStep, evOp, evP, St.init, St.app, srcStep, kill, setMany, loadS, fieldS, buildS, toks, Fin, upd_app, Array.isEmpty, Nat.reduceLT, Nat.reduceAdd, Nat.reduceMul, Nat.reduceLeDiff, Nat.reduceSub, Nat.reduceEqDiff, reduceCtorEq, reduceIte, ↓Opt.is, ↓Opt.no, ↓Asks.yes, ↓Asks.no, tyL, encL, leL, leD, ne_eq, hst2])
            · rw [Bool.false_and] at hst2
              repeat (first | refine aq ?_ | refine ap (by rfl : apartB 0 _ _ = true) ?_ | refine ak ?_ | refine ab ?_ | refine al ?_ | ((first | refine ar ?_ | refine ad ty_mix (by kernel_rfl) ?_ | refine ac ?_ | refine ae ?_ | with_reducible refine Later.mk ?_); simp only [evD, evL, iteL, S.arg.eq_12, S.asL.eq_6, St.said, St.asked, evStep, evOp, evP, St.init, St.app, srcStep, kill, setMany, loadS, fieldS, buildS, toks, Fin, upd_app, Array.isEmpty, Nat.reduceLT, Nat.reduceAdd, Nat.reduceMul, Nat.reduceLeDiff, Nat.reduceSub, Nat.reduceEqDiff, reduceCtorEq, reduceIte, ↓Opt.is, ↓Opt.no, ↓Asks.yes, ↓Asks.no, tyL, encL, hw2, asB]))
              refine ⟨h2, ?_⟩
              ((first | refine Le.mk rfl ?_ ?_ | refine LeTo.mk rfl ?_ ?_) <;> simp only [evD, evL, iteL, S.arg.eq_12, S.asL.eq_6, St.said, St.asked, evStep, evOp, evP, St.init, St.app, srcStep, kill, setMany, loadS, fieldS, buildS, toks, Fin, upd_app, Array.isEmpty, Nat.reduceLT, Nat.reduceAdd, Nat.reduceMul, Nat.reduceLeDiff, Nat.reduceSub, Nat.reduceEqDiff, reduceCtorEq, reduceIte, ↓Opt.is, ↓Opt.no, ↓Asks.yes, ↓Asks.no, tyL, encL, leL, leD, ne_eq, hst2])
          · have h2 : i = s.length := by have := of_decide_eq_false h2; omega
            subst h2
            have hdm : (s.all fun y => !edgeP l (x : Int) y || isPr p (x : Int) y) = domL l p s (x : Int) := rfl
            rw [List.take_length, hdm]
            rcases Bool.eq_false_or_eq_true (domL l p s (x : Int)) with c2 | c2 <;> rw [c2] at hst ⊢
            · have hr : parL m l p s = false := by
                unfold parL
                exact List.all_eq_false.2 ⟨x, List.mem_range.2 h, by rw [c1, c2]; simp⟩
              rw [hr]
              repeat (first | refine aq ?_ | refine ap (by rfl : apartB 0 _ _ = true) ?_ | refine ak ?_ | refine ab ?_ | refine al ?_ | ((first | refine ar ?_ | refine ad ty_mix (by kernel_rfl) ?_ | refine ac ?_ | refine ae ?_ | with_reducible refine Later.mk ?_); simp only [evD, evL, iteL, S.arg.eq_12, S.asL.eq_6, St.said, St.asked, evStep, evOp, evP, St.init, St.app, srcStep, kill, setMany, loadS, fieldS, buildS, toks, Fin, upd_app, Array.isEmpty, Nat.reduceLT, Nat.reduceAdd, Nat.reduceMul, Nat.reduceLeDiff, Nat.reduceSub, Nat.reduceEqDiff, reduceCtorEq, reduceIte, ↓Opt.is, ↓Opt.no, ↓Asks.yes, ↓Asks.no, tyL, encL, asB]))
              refine Ab.ret ?_; simp only [evD, evL, iteL, S.arg.eq_12, S.asL.eq_6, St.said, St.asked, evStep, evOp, evP, St.init, St.app, srcStep, kill, setMany, loadS, fieldS, buildS, toks, Fin, upd_app, Array.isEmpty, Nat.reduceLT, Nat.reduceAdd, Nat.reduceMul, Nat.reduceLeDiff, Nat.reduceSub, Nat.reduceEqDiff, reduceCtorEq, reduceIte, ↓Opt.is, ↓Opt.no, ↓Asks.yes, ↓Asks.no, tyL, List.nodup_cons, encL, Tryd.f62]
            · repeat (first | refine aq ?_ | refine ap (by rfl : apartB 0 _ _ = true) ?_ | refine ak ?_ | refine ab ?_ | refine al ?_ | ((first | refine ar ?_ | refine ad ty_mix (by kernel_rfl) ?_ | refine ac ?_ | refine ae ?_ | with_reducible refine Later.mk ?_); simp only [evD, evL, iteL, S.arg.eq_12, S.asL.eq_6, St.said, St.asked, evStep, evOp, evP, St.init, St.app, srcStep, kill, setMany, loadS, fieldS, buildS, toks, Fin, upd_app, Array.isEmpty, Nat.reduceLT, Nat.reduceAdd, Nat.reduceMul, Nat.reduceLeDiff, Nat.reduceSub, Nat.reduceEqDiff, reduceCtorEq, reduceIte, ↓Opt.is, ↓Opt.no, ↓Asks.yes, ↓Asks.no, tyL, encL, hw, asB]))
              refine ⟨h, hst, ?_⟩
              ((first | refine Le.mk rfl ?_ ?_ | refine LeTo.mk rfl ?_ ?_) <;> simp only [evD, evL, iteL, S.arg.eq_12, S.asL.eq_6, St.said, St.asked, evStep, evOp, evP, St.init, St.app, srcStep, kill, setMany, loadS, fieldS, buildS, toks, Fin, upd_app, Array.isEmpty, Nat.reduceLT, Nat.reduceAdd, Nat.reduceMul, Nat.reduceLeDiff, Nat.reduceSub, Nat.reduceEqDiff, reduceCtorEq, reduceIte, ↓Opt.is, ↓Opt.no, ↓Asks.yes, ↓Asks.no, tyL, encL, leL, leD, ne_eq])
      · have h : x = m := by have := of_decide_eq_false h; omega
        subst h
        have hr : parL x l p s = true := hA
        rw [hr]
        repeat (first | refine aq ?_ | refine ap (by rfl : apartB 0 _ _ = true) ?_ | refine ak ?_ | refine ab ?_ | refine al ?_ | ((first | refine ar ?_ | refine ad ty_mix (by kernel_rfl) ?_ | refine ac ?_ | refine ae ?_ | with_reducible refine Later.mk ?_); simp only [evD, evL, iteL, S.arg.eq_12, S.asL.eq_6, St.said, St.asked, evStep, evOp, evP, St.init, St.app, srcStep, kill, setMany, loadS, fieldS, buildS, toks, Fin, upd_app, Array.isEmpty, Nat.reduceLT, Nat.reduceAdd, Nat.reduceMul, Nat.reduceLeDiff, Nat.reduceSub, Nat.reduceEqDiff, reduceCtorEq, reduceIte, ↓Opt.is, ↓Opt.no, ↓Asks.yes, ↓Asks.no, tyL, encL, asB]))
        refine Ab.ret ?_; simp only [evD, evL, iteL, S.arg.eq_12, S.asL.eq_6, St.said, St.asked, evStep, evOp, evP, St.init, St.app, srcStep, kill, setMany, loadS, fieldS, buildS, toks, Fin, upd_app, Array.isEmpty, Nat.reduceLT, Nat.reduceAdd, Nat.reduceMul, Nat.reduceLeDiff, Nat.reduceSub, Nat.reduceEqDiff, reduceCtorEq, reduceIte, ↓Opt.is, ↓Opt.no, ↓Asks.yes, ↓Asks.no, tyL, List.nodup_cons, encL, Tryd.f62]
    · rw [hd2] at hc2
      rw [hd] at hc
      rw [hd, hd2, Bool.false_and, Bool.and_false]
      refine AC.intro Tryd.func62 rfl (by decide) (by simp [S.res, S.ress]) (by simp [S.os, S.oss]) (by simp [S.wfs, S.wf, dbS]) (by simp [Tryd.f62]) ?_; rw [Tryd.ntmps62]
      repeat (first | refine aq ?_ | refine ap (by rfl : apartB 0 _ _ = true) ?_ | refine ak ?_ | refine ab ?_ | refine al ?_ | ((first | refine ar ?_ | refine ad ty_mix (by kernel_rfl) ?_ | refine ac ?_ | refine ae ?_ | with_reducible refine Later.mk ?_); simp only [evD, evL, iteL, S.arg.eq_12, S.asL.eq_6, St.said, St.asked, evStep, evOp, evP, St.init, St.app, srcStep, kill, setMany, loadS, fieldS, buildS, toks, Fin, upd_app, Array.isEmpty, Nat.reduceLT, Nat.reduceAdd, Nat.reduceMul, Nat.reduceLeDiff, Nat.reduceSub, Nat.reduceEqDiff, reduceCtorEq, reduceIte, ↓Opt.is, ↓Opt.no, ↓Asks.yes, ↓Asks.no, tyL, encL, asB]))
      refine ⟨_, hc, ?_⟩; (repeat (first | refine ap (by rfl : apartB 0 _ _ = true) ?_ | refine ap (by simp [osL, D.flat]) ?_)); repeat (first | refine aq ?_ | refine ap (by rfl : apartB 0 _ _ = true) ?_ | refine ak ?_ | refine ab ?_ | refine al ?_ | ((first | refine ar ?_ | refine ad ty_mix (by kernel_rfl) ?_ | refine ac ?_ | refine ae ?_ | with_reducible refine Later.mk ?_); simp only [evD, evL, iteL, S.arg.eq_12, S.asL.eq_6, St.said, St.asked, evStep, evOp, evP, St.init, St.app, srcStep, kill, setMany, loadS, fieldS, buildS, toks, Fin, upd_app, Array.isEmpty, Nat.reduceLT, Nat.reduceAdd, Nat.reduceMul, Nat.reduceLeDiff, Nat.reduceSub, Nat.reduceEqDiff, reduceCtorEq, reduceIte, ↓Opt.is, ↓Opt.no, ↓Asks.yes, ↓Asks.no, tyL, encL, asB]))
      refine ⟨_, hc2, ?_⟩; (repeat (first | refine ap (by rfl : apartB 0 _ _ = true) ?_ | refine ap (by simp [osL, D.flat]) ?_)); repeat (first | refine aq ?_ | refine ap (by rfl : apartB 0 _ _ = true) ?_ | refine ak ?_ | refine ab ?_ | refine al ?_ | ((first | refine ar ?_ | refine ad ty_mix (by kernel_rfl) ?_ | refine ac ?_ | refine ae ?_ | with_reducible refine Later.mk ?_); simp only [evD, evL, iteL, S.arg.eq_12, S.asL.eq_6, St.said, St.asked, evStep, evOp, evP, St.init, St.app, srcStep, kill, setMany, loadS, fieldS, buildS, toks, Fin, upd_app, Array.isEmpty, Nat.reduceLT, Nat.reduceAdd, Nat.reduceMul, Nat.reduceLeDiff, Nat.reduceSub, Nat.reduceEqDiff, reduceCtorEq, reduceIte, ↓Opt.is, ↓Opt.no, ↓Asks.yes, ↓Asks.no, tyL, encL, asB]))
      refine Ab.ret ?_; simp only [evD, evL, iteL, S.arg.eq_12, S.asL.eq_6, St.said, St.asked, evStep, evOp, evP, St.init, St.app, srcStep, kill, setMany, loadS, fieldS, buildS, toks, Fin, upd_app, Array.isEmpty, Nat.reduceLT, Nat.reduceAdd, Nat.reduceMul, Nat.reduceLeDiff, Nat.reduceSub, Nat.reduceEqDiff, reduceCtorEq, reduceIte, ↓Opt.is, ↓Opt.no, ↓Asks.yes, ↓Asks.no, tyL, List.nodup_cons, encL, Tryd.f62]
  · rw [hd] at hc
    rw [hd, Bool.false_and]
    refine AC.intro Tryd.func62 rfl (by decide) (by simp [S.res, S.ress]) (by simp [S.os, S.oss]) (by simp [S.wfs, S.wf, dbS]) (by simp [Tryd.f62]) ?_; rw [Tryd.ntmps62]
    repeat (first | refine aq ?_ | refine ap (by rfl : apartB 0 _ _ = true) ?_ | refine ak ?_ | refine ab ?_ | refine al ?_ | ((first | refine ar ?_ | refine ad ty_mix (by kernel_rfl) ?_ | refine ac ?_ | refine ae ?_ | with_reducible refine Later.mk ?_); simp only [evD, evL, iteL, S.arg.eq_12, S.asL.eq_6, St.said, St.asked, evStep, evOp, evP, St.init, St.app, srcStep, kill, setMany, loadS, fieldS, buildS, toks, Fin, upd_app, Array.isEmpty, Nat.reduceLT, Nat.reduceAdd, Nat.reduceMul, Nat.reduceLeDiff, Nat.reduceSub, Nat.reduceEqDiff, reduceCtorEq, reduceIte, ↓Opt.is, ↓Opt.no, ↓Asks.yes, ↓Asks.no, tyL, encL, asB]))
    refine ⟨_, hc, ?_⟩; (repeat (first | refine ap (by rfl : apartB 0 _ _ = true) ?_ | refine ap (by simp [osL, D.flat]) ?_)); repeat (first | refine aq ?_ | refine ap (by rfl : apartB 0 _ _ = true) ?_ | refine ak ?_ | refine ab ?_ | refine al ?_ | ((first | refine ar ?_ | refine ad ty_mix (by kernel_rfl) ?_ | refine ac ?_ | refine ae ?_ | with_reducible refine Later.mk ?_); simp only [evD, evL, iteL, S.arg.eq_12, S.asL.eq_6, St.said, St.asked, evStep, evOp, evP, St.init, St.app, srcStep, kill, setMany, loadS, fieldS, buildS, toks, Fin, upd_app, Array.isEmpty, Nat.reduceLT, Nat.reduceAdd, Nat.reduceMul, Nat.reduceLeDiff, Nat.reduceSub, Nat.reduceEqDiff, reduceCtorEq, reduceIte, ↓Opt.is, ↓Opt.no, ↓Asks.yes, ↓Asks.no, tyL, encL, asB]))
    refine Ab.ret ?_; simp only [evD, evL, iteL, S.arg.eq_12, S.asL.eq_6, St.said, St.asked, evStep, evOp, evP, St.init, St.app, srcStep, kill, setMany, loadS, fieldS, buildS, toks, Fin, upd_app, Array.isEmpty, Nat.reduceLT, Nat.reduceAdd, Nat.reduceMul, Nat.reduceLeDiff, Nat.reduceSub, Nat.reduceEqDiff, reduceCtorEq, reduceIte, ↓Opt.is, ↓Opt.no, ↓Asks.yes, ↓Asks.no, tyL, List.nodup_cons, encL, Tryd.f62]
end Go.Proofs.YtgipcnofonejcaaDoor.Ab
end

section
/- Chapter 28: the Pareto-optimal repairs, both sides; the items that are kept become an own datum. -/
open Go Go.Proofs Go.RowKit
namespace Go.Proofs.YtgipcnofonejcaaDoor.Ab
set_option linter.unusedSimpArgs false
set_option linter.unusedVariables false
set_option maxRecDepth 100000
theorem getH {P : List (Value × List Int)} {i : Nat} (h : i < P.length) : (P.map (encH encIs))[i]? = some [.h P[i].1 (encIs P[i].2)] := by simp [h, encH]
theorem bareP (P : List (Value × List Int)) (p : List Int → Bool) : ((P.map Prod.snd).filter p).map encB = (P.filter fun q => p q.2).map fun q => enc1 encIs q.2 := by
  induction P with
  | nil => rfl
  | cons a P ih =>
    rw [List.map_cons, List.filter_cons, List.filter_cons]
    by_cases h : p a.2 = true
    · rw [if_pos h, if_pos h, List.map_cons, List.map_cons, ih]; rfl
    · rw [if_neg h, if_neg h, ih]
theorem keepAll_w {g : FuncId} {caps : List S} (hc : Caps caps) (p : List Int → Bool) (l : List (List Int)) (hl : l.length ≤ 1048576) (hp : ∀ x, x ∈ l → AC Tryd.prog g (.d (encIs x) :: caps) (.d (.v (.bool (p x))))) :
    AW Tryd.prog 64 [.o 96 (encIss l), .f (.func g) [] caps] [(96, .tok (encIss l))] (.o 6 (.sl ((l.filter p).map encB))) [(96, .dead), (6, .tok (.sl ((l.filter p).map encB)))] := by
  generalize hR : (l.filter p).map encB = R
  unfold encIss
  refine AW.intro 128 Tryd.func64 rfl (by decide) ⟨by simp [keysM], by simp [keysM], by simp [S.wfs, S.wf, updl, upd, hc.wfs], by simp [wfM, wfB, wfI, S.wfs, S.wf, updl, upd], by simp [S.wf, S.wfs, updl, upd], by simp [wfM, wfB, wfI, S.wfs, S.wf, updl, upd]⟩ (by simp [keysM]) (by simp [Tryd.f64]) ?_; rw [Tryd.ntmps64]; simp only [St.initW, fM, keysM, updl, List.map_cons, List.map_nil]
  repeat (first | refine aq ?_ | refine ap (by rfl : apartB 0 _ _ = true) ?_ | refine ak ?_ | refine ab ?_ | refine al ?_ | ((first | refine ar ?_ | refine ad ty_mix (by kernel_rfl) ?_ | refine ac ?_ | refine ae ?_ | with_reducible refine Later.mk ?_); simp only [evD, evL, iteL, S.arg.eq_12, S.asL.eq_6, St.said, St.asked, evStep, evOp, evP, St.init, St.app, srcStep, kill, setMany, loadS, fieldS, buildS, toks, Fin, upd_app, Array.isEmpty, Nat.reduceLT, Nat.reduceAdd, Nat.reduceMul, Nat.reduceLeDiff, Nat.reduceSub, Nat.reduceEqDiff, reduceCtorEq, reduceIte, ↓Opt.is, ↓Opt.no, ↓Asks.yes, ↓Asks.no, tyL, encL, asB]))
  refine Ab.weaken (Le.adopt (t := 5) (id := 1) (n := 1) 46 (by omega) (by simp only [evD, evL, iteL, S.arg.eq_12, S.asL.eq_6, St.said, St.asked, evStep, evOp, evP, St.init, St.app, srcStep, kill, setMany, loadS, fieldS, buildS, toks, Fin, upd_app, Array.isEmpty, Nat.reduceLT, Nat.reduceAdd, Nat.reduceMul, Nat.reduceLeDiff, Nat.reduceSub, Nat.reduceEqDiff, reduceCtorEq, reduceIte, ↓Opt.is, ↓Opt.no, ↓Asks.yes, ↓Asks.no, tyL, encL]) (by simp only [evD, evL, iteL, S.arg.eq_12, S.asL.eq_6, St.said, St.asked, evStep, evOp, evP, St.init, St.app, srcStep, kill, setMany, loadS, fieldS, buildS, toks, Fin, upd_app, Array.isEmpty, Nat.reduceLT, Nat.reduceAdd, Nat.reduceMul, Nat.reduceLeDiff, Nat.reduceSub, Nat.reduceEqDiff, reduceCtorEq, reduceIte, ↓Opt.is, ↓Opt.no, ↓Asks.yes, ↓Asks.no, tyL, encL])) ?_
  simp only [evD, evL, iteL, S.arg.eq_12, S.asL.eq_6, St.said, St.asked, evStep, evOp, evP, St.init, St.app, srcStep, kill, setMany, loadS, fieldS, buildS, toks, Fin, upd_app, Array.isEmpty, Nat.reduceLT, Nat.reduceAdd, Nat.reduceMul, Nat.reduceLeDiff, Nat.reduceSub, Nat.reduceEqDiff, reduceCtorEq, reduceIte, ↓Opt.is, ↓Opt.no, ↓Asks.yes, ↓Asks.no, tyL, encL]
  refine Ab.weaken (s' := mkS 23 [(1, .f (.func g) [] caps), (5, .g 1 []), (8, .o 96 (.sl (l.map encB))), (9, .d (.v (.int .i64 (l.length : Int)))), (10, .d (.v (.int .i64 0)))] [(1, .tip false 46 1 []), (96, .tok (.sl (l.map encB))), (9, .frm [96]), (11, .dead)] 320) (by ((first | refine Le.mk rfl ?_ ?_ | refine LeTo.mk rfl ?_ ?_) <;> simp only [evD, evL, iteL, S.arg.eq_12, S.asL.eq_6, St.said, St.asked, evStep, evOp, evP, St.init, St.app, srcStep, kill, setMany, loadS, fieldS, buildS, toks, Fin, upd_app, Array.isEmpty, Nat.reduceLT, Nat.reduceAdd, Nat.reduceMul, Nat.reduceLeDiff, Nat.reduceSub, Nat.reduceEqDiff, reduceCtorEq, reduceIte, ↓Opt.is, ↓Opt.no, ↓Asks.yes, ↓Asks.no, tyL, encL, leL, leD, ne_eq, hc.wfs, frL, wfI])) ?_
  refine Ab.name (f := encIs) 96 8 (l := l) rfl rfl fun P hP => ?_
  simp only [evD, evL, iteL, S.arg.eq_12, S.asL.eq_6, St.said, St.asked, evStep, evOp, evP, St.init, St.app, srcStep, kill, setMany, loadS, fieldS, buildS, toks, Fin, upd_app, Array.isEmpty, Nat.reduceLT, Nat.reduceAdd, Nat.reduceMul, Nat.reduceLeDiff, Nat.reduceSub, Nat.reduceEqDiff, reduceCtorEq, reduceIte, ↓Opt.is, ↓Opt.no, ↓Asks.yes, ↓Asks.no, tyL, encL, mkS, updl]
  have hPl : P.length = l.length := by rw [← hP, List.length_map]
  have hPm : ∀ (i : Nat) (h : i < P.length), P[i].2 ∈ l := fun i h => by rw [← hP]; exact List.mem_map.2 ⟨_, List.getElem_mem h, rfl⟩
  rw [← hP, bareP] at hR
  rw [← hPl]
  rw [← hPl] at hl
  refine Ab.loopI P.length (fun _ => True) (fun i => mkS 23 [(1, .f (.func g) [] caps), (5, .g 1 (((P.take i).filter fun q => p q.2).map (encH encIs))), (8, .o 96 (.sl (P.map (encH encIs)))), (9, .d (.v (.int .i64 (P.length : Int)))), (10, .d (.v (.int .i64 (i : Int))))] [(1, .tip false 46 1 (((P.take i).filter fun q => p q.2).map (encH encIs))), (96, .tok (.sl (P.map (encH encIs)))), (9, .frm [96]), (11, .dead)] 320) trivial ?_ ?_
  · ((first | refine Le.mk rfl ?_ ?_ | refine LeTo.mk rfl ?_ ?_) <;> simp only [evD, evL, iteL, S.arg.eq_12, S.asL.eq_6, St.said, St.asked, evStep, evOp, evP, St.init, St.app, srcStep, kill, setMany, loadS, fieldS, buildS, toks, Fin, upd_app, Array.isEmpty, Nat.reduceLT, Nat.reduceAdd, Nat.reduceMul, Nat.reduceLeDiff, Nat.reduceSub, Nat.reduceEqDiff, reduceCtorEq, reduceIte, ↓Opt.is, ↓Opt.no, ↓Asks.yes, ↓Asks.no, tyL, encL, leL, leD, ne_eq, hc.wfs, List.take_zero, List.filter_nil, List.map_nil, frL, wfI])
  intro i hi _
  repeat (first | refine aq ?_ | refine ap (by rfl : apartB 0 _ _ = true) ?_ | refine ak ?_ | refine ab ?_ | refine al ?_ | ((first | refine ar ?_ | refine ad ty_mix (by kernel_rfl) ?_ | refine ac ?_ | refine ae ?_ | with_reducible refine Later.mk ?_); simp only [evD, evL, iteL, S.arg.eq_12, S.asL.eq_6, St.said, St.asked, evStep, evOp, evP, St.init, St.app, srcStep, kill, setMany, loadS, fieldS, buildS, toks, Fin, upd_app, Array.isEmpty, Nat.reduceLT, Nat.reduceAdd, Nat.reduceMul, Nat.reduceLeDiff, Nat.reduceSub, Nat.reduceEqDiff, reduceCtorEq, reduceIte, ↓Opt.is, ↓Opt.no, ↓Asks.yes, ↓Asks.no, tyL, encL, mkS, updl, asB]))
  refine ⟨fun h => ?_, fun h => ?_⟩
  · have h : i < P.length := by simpa using h
    have hw := wrapN h (by omega)
    have hsl := Nat.le_trans (List.length_filter_le (fun q : Value × List Int => p q.2) (P.take i)) (by rw [List.length_take]; omega : _ ≤ i)
    have hs : (P.take (i + 1)).filter (fun q => p q.2) = (P.take i).filter (fun q => p q.2) ++ (if p P[i].2 = true then [P[i]] else []) := by
      rw [List.take_succ_eq_append_getElem h, List.filter_append]
      simp only [List.filter_cons, List.filter_nil]
    have hgh := getH h
    repeat (first | refine aq ?_ | refine ap (by rfl : apartB 0 _ _ = true) ?_ | refine ak ?_ | refine ab ?_ | refine al ?_ | ((first | refine ar ?_ | refine ad ty_mix (by kernel_rfl) ?_ | refine ac ?_ | refine ae ?_ | with_reducible refine Later.mk ?_); simp only [evD, evL, iteL, S.arg.eq_12, S.asL.eq_6, St.said, St.asked, evStep, evOp, evP, St.init, St.app, srcStep, kill, setMany, loadS, fieldS, buildS, toks, Fin, upd_app, Array.isEmpty, Nat.reduceLT, Nat.reduceAdd, Nat.reduceMul, Nat.reduceLeDiff, Nat.reduceSub, Nat.reduceEqDiff, reduceCtorEq, reduceIte, ↓Opt.is, ↓Opt.no, ↓Asks.yes, ↓Asks.no, tyL, encL, hgh, hc.argl, hc.readsl, asB]))
    refine Kw.ac ?_; simp only [evD, evL, iteL, S.arg.eq_12, S.asL.eq_6, St.said, St.asked, evStep, evOp, evP, St.init, St.app, srcStep, kill, setMany, loadS, fieldS, buildS, toks, Fin, upd_app, Array.isEmpty, Nat.reduceLT, Nat.reduceAdd, Nat.reduceMul, Nat.reduceLeDiff, Nat.reduceSub, Nat.reduceEqDiff, reduceCtorEq, reduceIte, ↓Opt.is, ↓Opt.no, ↓Asks.yes, ↓Asks.no, tyL, encL, hc.argl, hc.readsl]
    refine ⟨_, hp P[i].2 (hPm i h), ?_⟩
    try simp only [evD, evL, iteL, S.arg.eq_12, S.asL.eq_6, St.said, St.asked, evStep, evOp, evP, St.init, St.app, srcStep, kill, setMany, loadS, fieldS, buildS, toks, Fin, upd_app, Array.isEmpty, Nat.reduceLT, Nat.reduceAdd, Nat.reduceMul, Nat.reduceLeDiff, Nat.reduceSub, Nat.reduceEqDiff, reduceCtorEq, reduceIte, ↓Opt.is, ↓Opt.no, ↓Asks.yes, ↓Asks.no, tyL, encL, hc.readsl]
    repeat (first | refine aq ?_ | refine ap (by rfl : apartB 0 _ _ = true) ?_ | refine ak ?_ | refine ab ?_ | refine al ?_ | ((first | refine ar ?_ | refine ad ty_mix (by kernel_rfl) ?_ | refine ac ?_ | refine ae ?_ | with_reducible refine Later.mk ?_); simp only [evD, evL, iteL, S.arg.eq_12, S.asL.eq_6, St.said, St.asked, evStep, evOp, evP, St.init, St.app, srcStep, kill, setMany, loadS, fieldS, buildS, toks, Fin, upd_app, Array.isEmpty, Nat.reduceLT, Nat.reduceAdd, Nat.reduceMul, Nat.reduceLeDiff, Nat.reduceSub, Nat.reduceEqDiff, reduceCtorEq, reduceIte, ↓Opt.is, ↓Opt.no, ↓Asks.yes, ↓Asks.no, tyL, encL, asB]))
    refine ⟨fun h3 => ?_, fun h3 => ?_⟩
    · rw [if_pos h3] at hs
      repeat (first | refine aq ?_ | refine ap (by rfl : apartB 0 _ _ = true) ?_ | refine ak ?_ | refine ab ?_ | refine al ?_ | ((first | refine ar ?_ | refine ad ty_mix (by kernel_rfl) ?_ | refine ac ?_ | refine ae ?_ | with_reducible refine Later.mk ?_); simp only [evD, evL, iteL, S.arg.eq_12, S.asL.eq_6, St.said, St.asked, evStep, evOp, evP, St.init, St.app, srcStep, kill, setMany, loadS, fieldS, buildS, toks, Fin, upd_app, Array.isEmpty, Nat.reduceLT, Nat.reduceAdd, Nat.reduceMul, Nat.reduceLeDiff, Nat.reduceSub, Nat.reduceEqDiff, reduceCtorEq, reduceIte, ↓Opt.is, ↓Opt.no, ↓Asks.yes, ↓Asks.no, tyL, encL, hgh, asB]))
      refine ⟨by simp, false, by simp, Later.mk ?_⟩
      simp only [evD, evL, iteL, S.arg.eq_12, S.asL.eq_6, St.said, St.asked, evStep, evOp, evP, St.init, St.app, srcStep, kill, setMany, loadS, fieldS, buildS, toks, Fin, upd_app, Array.isEmpty, Nat.reduceLT, Nat.reduceAdd, Nat.reduceMul, Nat.reduceLeDiff, Nat.reduceSub, Nat.reduceEqDiff, reduceCtorEq, reduceIte, ↓Opt.is, ↓Opt.no, ↓Asks.yes, ↓Asks.no, tyL, encL]
      refine ⟨by simp only [maxLen]; omega, by omega, ?_⟩
      repeat (first | refine aq ?_ | refine ap (by rfl : apartB 0 _ _ = true) ?_ | refine ak ?_ | refine ab ?_ | refine al ?_ | ((first | refine ar ?_ | refine ad ty_mix (by kernel_rfl) ?_ | refine ac ?_ | refine ae ?_ | with_reducible refine Later.mk ?_); simp only [evD, evL, iteL, S.arg.eq_12, S.asL.eq_6, St.said, St.asked, evStep, evOp, evP, St.init, St.app, srcStep, kill, setMany, loadS, fieldS, buildS, toks, Fin, upd_app, Array.isEmpty, Nat.reduceLT, Nat.reduceAdd, Nat.reduceMul, Nat.reduceLeDiff, Nat.reduceSub, Nat.reduceEqDiff, reduceCtorEq, reduceIte, ↓Opt.is, ↓Opt.no, ↓Asks.yes, ↓Asks.no, tyL, encL, hw, asB]))
      refine ⟨h, ?_⟩
      ((first | refine Le.mk rfl ?_ ?_ | refine LeTo.mk rfl ?_ ?_) <;> simp only [evD, evL, iteL, S.arg.eq_12, S.asL.eq_6, St.said, St.asked, evStep, evOp, evP, St.init, St.app, srcStep, kill, setMany, loadS, fieldS, buildS, toks, Fin, upd_app, Array.isEmpty, Nat.reduceLT, Nat.reduceAdd, Nat.reduceMul, Nat.reduceLeDiff, Nat.reduceSub, Nat.reduceEqDiff, reduceCtorEq, reduceIte, ↓Opt.is, ↓Opt.no, ↓Asks.yes, ↓Asks.no, tyL, encL, leL, leD, ne_eq, hc.wfs, hs, List.map_append, List.map_cons, List.map_nil, encH, frL, wfI])
    · rw [if_neg (by rw [h3]; exact Bool.false_ne_true), List.append_nil] at hs
      repeat (first | refine aq ?_ | refine ap (by rfl : apartB 0 _ _ = true) ?_ | refine ak ?_ | refine ab ?_ | refine al ?_ | ((first | refine ar ?_ | refine ad ty_mix (by kernel_rfl) ?_ | refine ac ?_ | refine ae ?_ | with_reducible refine Later.mk ?_); simp only [evD, evL, iteL, S.arg.eq_12, S.asL.eq_6, St.said, St.asked, evStep, evOp, evP, St.init, St.app, srcStep, kill, setMany, loadS, fieldS, buildS, toks, Fin, upd_app, Array.isEmpty, Nat.reduceLT, Nat.reduceAdd, Nat.reduceMul, Nat.reduceLeDiff, Nat.reduceSub, Nat.reduceEqDiff, reduceCtorEq, reduceIte, ↓Opt.is, ↓Opt.no, ↓Asks.yes, ↓Asks.no, tyL, encL, hw, asB]))
      refine ⟨h, ?_⟩
      ((first | refine Le.mk rfl ?_ ?_ | refine LeTo.mk rfl ?_ ?_) <;> simp only [evD, evL, iteL, S.arg.eq_12, S.asL.eq_6, St.said, St.asked, evStep, evOp, evP, St.init, St.app, srcStep, kill, setMany, loadS, fieldS, buildS, toks, Fin, upd_app, Array.isEmpty, Nat.reduceLT, Nat.reduceAdd, Nat.reduceMul, Nat.reduceLeDiff, Nat.reduceSub, Nat.reduceEqDiff, reduceCtorEq, reduceIte, ↓Opt.is, ↓Opt.no, ↓Asks.yes, ↓Asks.no, tyL, encL, leL, leD, ne_eq, hc.wfs, hs, frL, wfI])
  · have h : i = P.length := by have := of_decide_eq_false h; omega
    subst h
    rw [List.take_length]
    refine Ab.weaken (s' := mkS 23 [(5, .g 1 ((P.filter fun q => p q.2).map (encH encIs)))] [(1, .tip false 46 1 ((P.filter fun q => p q.2).map (encH encIs))), (96, .tok (.sl (P.map (encH encIs)))), (9, .frm [96]), (11, .dead)] 400) (by ((first | refine Le.mk rfl ?_ ?_ | refine LeTo.mk rfl ?_ ?_) <;> simp only [evD, evL, iteL, S.arg.eq_12, S.asL.eq_6, St.said, St.asked, evStep, evOp, evP, St.init, St.app, srcStep, kill, setMany, loadS, fieldS, buildS, toks, Fin, upd_app, Array.isEmpty, Nat.reduceLT, Nat.reduceAdd, Nat.reduceMul, Nat.reduceLeDiff, Nat.reduceSub, Nat.reduceEqDiff, reduceCtorEq, reduceIte, ↓Opt.is, ↓Opt.no, ↓Asks.yes, ↓Asks.no, tyL, encL, leL, leD, ne_eq, frL, wfI])) ?_
    refine Ab.weaken (Le.pick (f := encIs) (P := P) (R := P.filter fun q => p q.2) 1 96 6 5 (dp := false) (e := 46) rfl rfl rfl rfl List.filter_sublist (by show 5 < 23; omega)) ?_
    simp only [evD, evL, iteL, S.arg.eq_12, S.asL.eq_6, St.said, St.asked, evStep, evOp, evP, St.init, St.app, srcStep, kill, setMany, loadS, fieldS, buildS, toks, Fin, upd_app, Array.isEmpty, Nat.reduceLT, Nat.reduceAdd, Nat.reduceMul, Nat.reduceLeDiff, Nat.reduceSub, Nat.reduceEqDiff, reduceCtorEq, reduceIte, ↓Opt.is, ↓Opt.no, ↓Asks.yes, ↓Asks.no, tyL, encL, mkS, updl]
    rw [hR]
    repeat (first | refine aq ?_ | refine ap (by rfl : apartB 0 _ _ = true) ?_ | refine ak ?_ | refine ab ?_ | refine al ?_ | ((first | refine ar ?_ | refine ad ty_mix (by kernel_rfl) ?_ | refine ac ?_ | refine ae ?_ | with_reducible refine Later.mk ?_); simp only [evD, evL, iteL, S.arg.eq_12, S.asL.eq_6, St.said, St.asked, evStep, evOp, evP, St.init, St.app, srcStep, kill, setMany, loadS, fieldS, buildS, toks, Fin, upd_app, Array.isEmpty, Nat.reduceLT, Nat.reduceAdd, Nat.reduceMul, Nat.reduceLeDiff, Nat.reduceSub, Nat.reduceEqDiff, reduceCtorEq, reduceIte, ↓Opt.is, ↓Opt.no, ↓Asks.yes, ↓Asks.no, tyL, encL, asB]))
    refine Ab.ret ?_; simp only [evD, evL, iteL, S.arg.eq_12, S.asL.eq_6, St.said, St.asked, evStep, evOp, evP, St.init, St.app, srcStep, kill, setMany, loadS, fieldS, buildS, toks, Fin, upd_app, Array.isEmpty, Nat.reduceLT, Nat.reduceAdd, Nat.reduceMul, Nat.reduceLeDiff, Nat.reduceSub, Nat.reduceEqDiff, reduceCtorEq, reduceIte, ↓Opt.is, ↓Opt.no, ↓Asks.yes, ↓Asks.no, tyL, encL, leL, leD, ne_eq, frL, preM, postM, keysM, B.okM, List.mem_cons, List.not_mem_nil, or_false, false_or, true_or, or_true, EndsW, FinW, LeR, oneOf, fM, updl, allM, List.nodup_cons, Tryd.f64]
def parR (n : Int) (l p : List Edg) : List (List Int) := (miL n l).filter (parOk n l p)
theorem parR_len (n : Int) (l p : List Edg) : (parR n l p).length ≤ 16384 := Nat.le_trans (List.length_filter_le _ _) (miL_len n l)
theorem parR_mem {n : Int} {l p : List Edg} {s : List Int} (h : s ∈ parR n l p) : s.length ≤ 64 ∧ (eSlice eInt).good s := miL_mem (List.mem_filter.1 h).1
theorem parR_good (n : Int) (l p : List Edg) : (eSlice (eSlice eInt)).good (parR n l p) := ⟨by have := parR_len n l p; simp only [maxLen]; omega, fun s hs => (parR_mem hs).2⟩
theorem implParetoOptimalRepairs_a {n : Int} {l p : List Edg} (gE : (eSlice eEdg).good l) (gP : (eSlice eEdg).good p) (hl : l.length ≤ 1048576) (hp : p.length ≤ 1048576) : AC Tryd.prog 31 [.d (.v (.int .i64 n)), .d (encEs l), .d (encEs p)] (.o 0 (encIss (parR n l p))) := by
  have hc1 := implMaximalIndependentSets_a (n := n) gE hl
  have hlen := miL_len n l
  have hw := keepAll_w (g := 65) (caps_three [.v (.int .i64 n)] [encEs l] [encEs p] 0 0 0) (parOk n l p) (miL n l) (by omega) (fun x hx => by
    obtain ⟨h1, h2⟩ := miL_mem hx
    have hc := implIsParetoOptimal_a (n := n) (s := x) gE gP h2 hl hp (by omega)
    refine AC.intro Tryd.func65 rfl (by decide) (by simp [S.res, S.ress]) (by simp [S.os, S.oss]) (by simp [S.wfs, S.wf, dbS]) (by simp [Tryd.f65]) ?_; rw [Tryd.ntmps65]
    repeat (first | refine aq ?_ | refine ap (by rfl : apartB 0 _ _ = true) ?_ | refine ak ?_ | refine ab ?_ | refine al ?_ | ((first | refine ar ?_ | refine ad ty_mix (by kernel_rfl) ?_ | refine ac ?_ | refine ae ?_ | with_reducible refine Later.mk ?_); simp only [evD, evL, iteL, S.arg.eq_12, S.asL.eq_6, St.said, St.asked, evStep, evOp, evP, St.init, St.app, srcStep, kill, setMany, loadS, fieldS, buildS, toks, Fin, upd_app, Array.isEmpty, Nat.reduceLT, Nat.reduceAdd, Nat.reduceMul, Nat.reduceLeDiff, Nat.reduceSub, Nat.reduceEqDiff, reduceCtorEq, reduceIte, ↓Opt.is, ↓Opt.no, ↓Asks.yes, ↓Asks.no, tyL, encL, asB]))
    refine ⟨_, hc, ?_⟩; (repeat (first | refine ap (by rfl : apartB 0 _ _ = true) ?_ | refine ap (by simp [osL, D.flat]) ?_)); repeat (first | refine aq ?_ | refine ap (by rfl : apartB 0 _ _ = true) ?_ | refine ak ?_ | refine ab ?_ | refine al ?_ | ((first | refine ar ?_ | refine ad ty_mix (by kernel_rfl) ?_ | refine ac ?_ | refine ae ?_ | with_reducible refine Later.mk ?_); simp only [evD, evL, iteL, S.arg.eq_12, S.asL.eq_6, St.said, St.asked, evStep, evOp, evP, St.init, St.app, srcStep, kill, setMany, loadS, fieldS, buildS, toks, Fin, upd_app, Array.isEmpty, Nat.reduceLT, Nat.reduceAdd, Nat.reduceMul, Nat.reduceLeDiff, Nat.reduceSub, Nat.reduceEqDiff, reduceCtorEq, reduceIte, ↓Opt.is, ↓Opt.no, ↓Asks.yes, ↓Asks.no, tyL, encL, asB]))
    refine Ab.ret ?_; simp only [evD, evL, iteL, S.arg.eq_12, S.asL.eq_6, St.said, St.asked, evStep, evOp, evP, St.init, St.app, srcStep, kill, setMany, loadS, fieldS, buildS, toks, Fin, upd_app, Array.isEmpty, Nat.reduceLT, Nat.reduceAdd, Nat.reduceMul, Nat.reduceLeDiff, Nat.reduceSub, Nat.reduceEqDiff, reduceCtorEq, reduceIte, ↓Opt.is, ↓Opt.no, ↓Asks.yes, ↓Asks.no, tyL, List.nodup_cons, encL, Tryd.f65])
  unfold parR
  generalize parOk n l p = ok at *
  generalize miL n l = R at *
  refine AC.intro Tryd.func31 rfl (by decide) (by simp [S.res, S.ress]) (by simp [S.os, S.oss]) (by simp [S.wfs, S.wf, dbS]) (by simp [Tryd.f31]) ?_; rw [Tryd.ntmps31]
  refine Ab.seq (Ab.region' ?_)
  simp only [evD, evL, iteL, S.arg.eq_12, S.asL.eq_6, St.said, St.asked, evStep, evOp, evP, St.init, St.app, srcStep, kill, setMany, loadS, fieldS, buildS, toks, Fin, upd_app, Array.isEmpty, Nat.reduceLT, Nat.reduceAdd, Nat.reduceMul, Nat.reduceLeDiff, Nat.reduceSub, Nat.reduceEqDiff, reduceCtorEq, reduceIte, ↓Opt.is, ↓Opt.no, ↓Asks.yes, ↓Asks.no, tyL, encL]
  refine Ab.weaken (Le.freeze (id := 0) (t := 3) (ds := [.v (.int .i64 n)]) (by simp only [evD, evL, iteL, S.arg.eq_12, S.asL.eq_6, St.said, St.asked, evStep, evOp, evP, St.init, St.app, srcStep, kill, setMany, loadS, fieldS, buildS, toks, Fin, upd_app, Array.isEmpty, Nat.reduceLT, Nat.reduceAdd, Nat.reduceMul, Nat.reduceLeDiff, Nat.reduceSub, Nat.reduceEqDiff, reduceCtorEq, reduceIte, ↓Opt.is, ↓Opt.no, ↓Asks.yes, ↓Asks.no, tyL, encL, mkS, updl]) (by simp only [evD, evL, iteL, S.arg.eq_12, S.asL.eq_6, St.said, St.asked, evStep, evOp, evP, St.init, St.app, srcStep, kill, setMany, loadS, fieldS, buildS, toks, Fin, upd_app, Array.isEmpty, Nat.reduceLT, Nat.reduceAdd, Nat.reduceMul, Nat.reduceLeDiff, Nat.reduceSub, Nat.reduceEqDiff, reduceCtorEq, reduceIte, ↓Opt.is, ↓Opt.no, ↓Asks.yes, ↓Asks.no, tyL, encL, mkS, updl])) ?_
  simp only [evD, evL, iteL, S.arg.eq_12, S.asL.eq_6, St.said, St.asked, evStep, evOp, evP, St.init, St.app, srcStep, kill, setMany, loadS, fieldS, buildS, toks, Fin, upd_app, Array.isEmpty, Nat.reduceLT, Nat.reduceAdd, Nat.reduceMul, Nat.reduceLeDiff, Nat.reduceSub, Nat.reduceEqDiff, reduceCtorEq, reduceIte, ↓Opt.is, ↓Opt.no, ↓Asks.yes, ↓Asks.no, tyL, encL, mkS, updl]
  refine Ab.weaken (Le.freeze (id := 16) (t := 4) (ds := [.sl (List.map encE l)]) (by simp only [evD, evL, iteL, S.arg.eq_12, S.asL.eq_6, St.said, St.asked, evStep, evOp, evP, St.init, St.app, srcStep, kill, setMany, loadS, fieldS, buildS, toks, Fin, upd_app, Array.isEmpty, Nat.reduceLT, Nat.reduceAdd, Nat.reduceMul, Nat.reduceLeDiff, Nat.reduceSub, Nat.reduceEqDiff, reduceCtorEq, reduceIte, ↓Opt.is, ↓Opt.no, ↓Asks.yes, ↓Asks.no, tyL, encL, mkS, updl]) (by simp only [evD, evL, iteL, S.arg.eq_12, S.asL.eq_6, St.said, St.asked, evStep, evOp, evP, St.init, St.app, srcStep, kill, setMany, loadS, fieldS, buildS, toks, Fin, upd_app, Array.isEmpty, Nat.reduceLT, Nat.reduceAdd, Nat.reduceMul, Nat.reduceLeDiff, Nat.reduceSub, Nat.reduceEqDiff, reduceCtorEq, reduceIte, ↓Opt.is, ↓Opt.no, ↓Asks.yes, ↓Asks.no, tyL, encL, mkS, updl])) ?_
  simp only [evD, evL, iteL, S.arg.eq_12, S.asL.eq_6, St.said, St.asked, evStep, evOp, evP, St.init, St.app, srcStep, kill, setMany, loadS, fieldS, buildS, toks, Fin, upd_app, Array.isEmpty, Nat.reduceLT, Nat.reduceAdd, Nat.reduceMul, Nat.reduceLeDiff, Nat.reduceSub, Nat.reduceEqDiff, reduceCtorEq, reduceIte, ↓Opt.is, ↓Opt.no, ↓Asks.yes, ↓Asks.no, tyL, encL, mkS, updl]
  refine Ab.weaken (Le.freeze (id := 32) (t := 5) (ds := [.sl (List.map encE p)]) (by simp only [evD, evL, iteL, S.arg.eq_12, S.asL.eq_6, St.said, St.asked, evStep, evOp, evP, St.init, St.app, srcStep, kill, setMany, loadS, fieldS, buildS, toks, Fin, upd_app, Array.isEmpty, Nat.reduceLT, Nat.reduceAdd, Nat.reduceMul, Nat.reduceLeDiff, Nat.reduceSub, Nat.reduceEqDiff, reduceCtorEq, reduceIte, ↓Opt.is, ↓Opt.no, ↓Asks.yes, ↓Asks.no, tyL, encL, mkS, updl]) (by simp only [evD, evL, iteL, S.arg.eq_12, S.asL.eq_6, St.said, St.asked, evStep, evOp, evP, St.init, St.app, srcStep, kill, setMany, loadS, fieldS, buildS, toks, Fin, upd_app, Array.isEmpty, Nat.reduceLT, Nat.reduceAdd, Nat.reduceMul, Nat.reduceLeDiff, Nat.reduceSub, Nat.reduceEqDiff, reduceCtorEq, reduceIte, ↓Opt.is, ↓Opt.no, ↓Asks.yes, ↓Asks.no, tyL, encL, mkS, updl])) ?_
  simp only [evD, evL, iteL, S.arg.eq_12, S.asL.eq_6, St.said, St.asked, evStep, evOp, evP, St.init, St.app, srcStep, kill, setMany, loadS, fieldS, buildS, toks, Fin, upd_app, Array.isEmpty, Nat.reduceLT, Nat.reduceAdd, Nat.reduceMul, Nat.reduceLeDiff, Nat.reduceSub, Nat.reduceEqDiff, reduceCtorEq, reduceIte, ↓Opt.is, ↓Opt.no, ↓Asks.yes, ↓Asks.no, tyL, encL, mkS, updl]
  refine Ab.weaken (Le.flag (by simp only [evD, evL, iteL, S.arg.eq_12, S.asL.eq_6, St.said, St.asked, evStep, evOp, evP, St.init, St.app, srcStep, kill, setMany, loadS, fieldS, buildS, toks, Fin, upd_app, Array.isEmpty, Nat.reduceLT, Nat.reduceAdd, Nat.reduceMul, Nat.reduceLeDiff, Nat.reduceSub, Nat.reduceEqDiff, reduceCtorEq, reduceIte, ↓Opt.is, ↓Opt.no, ↓Asks.yes, ↓Asks.no, tyL, encL, mkS, updl])) ?_
  simp only [evD, evL, iteL, S.arg.eq_12, S.asL.eq_6, St.said, St.asked, evStep, evOp, evP, St.init, St.app, srcStep, kill, setMany, loadS, fieldS, buildS, toks, Fin, upd_app, Array.isEmpty, Nat.reduceLT, Nat.reduceAdd, Nat.reduceMul, Nat.reduceLeDiff, Nat.reduceSub, Nat.reduceEqDiff, reduceCtorEq, reduceIte, ↓Opt.is, ↓Opt.no, ↓Asks.yes, ↓Asks.no, tyL, encL, mkS, updl]
  repeat (first | refine aq ?_ | refine ap (by rfl : apartB 0 _ _ = true) ?_ | refine ak ?_ | refine ab ?_ | refine al ?_ | ((first | refine ar ?_ | refine ad ty_mix (by kernel_rfl) ?_ | refine ac ?_ | refine ae ?_ | with_reducible refine Later.mk ?_); simp only [evD, evL, iteL, S.arg.eq_12, S.asL.eq_6, St.said, St.asked, evStep, evOp, evP, St.init, St.app, srcStep, kill, setMany, loadS, fieldS, buildS, toks, Fin, upd_app, Array.isEmpty, Nat.reduceLT, Nat.reduceAdd, Nat.reduceMul, Nat.reduceLeDiff, Nat.reduceSub, Nat.reduceEqDiff, reduceCtorEq, reduceIte, ↓Opt.is, ↓Opt.no, ↓Asks.yes, ↓Asks.no, tyL, encL, asB]))
  refine Kw.ac ?_; simp only [evD, evL, iteL, S.arg.eq_12, S.asL.eq_6, St.said, St.asked, evStep, evOp, evP, St.init, St.app, srcStep, kill, setMany, loadS, fieldS, buildS, toks, Fin, upd_app, Array.isEmpty, Nat.reduceLT, Nat.reduceAdd, Nat.reduceMul, Nat.reduceLeDiff, Nat.reduceSub, Nat.reduceEqDiff, reduceCtorEq, reduceIte, ↓Opt.is, ↓Opt.no, ↓Asks.yes, ↓Asks.no, tyL, encL]
  refine ⟨_, hc1, ?_⟩; (repeat (first | refine ap (by rfl : apartB 0 _ _ = true) ?_ | refine ap (by simp [osL, D.flat]) ?_)); repeat (first | refine aq ?_ | refine ap (by rfl : apartB 0 _ _ = true) ?_ | refine ak ?_ | refine ab ?_ | refine al ?_ | ((first | refine ar ?_ | refine ad ty_mix (by kernel_rfl) ?_ | refine ac ?_ | refine ae ?_ | with_reducible refine Later.mk ?_); simp only [evD, evL, iteL, S.arg.eq_12, S.asL.eq_6, St.said, St.asked, evStep, evOp, evP, St.init, St.app, srcStep, kill, setMany, loadS, fieldS, buildS, toks, Fin, upd_app, Array.isEmpty, Nat.reduceLT, Nat.reduceAdd, Nat.reduceMul, Nat.reduceLeDiff, Nat.reduceSub, Nat.reduceEqDiff, reduceCtorEq, reduceIte, ↓Opt.is, ↓Opt.no, ↓Asks.yes, ↓Asks.no, tyL, encL, asB]))
  refine Kw.aw ⟨_, _, _, _, hw, ?_⟩; simp only [evD, evL, iteL, S.arg.eq_12, S.asL.eq_6, St.said, St.asked, evStep, evOp, evP, St.init, St.app, srcStep, kill, setMany, loadS, fieldS, buildS, toks, Fin, upd_app, Array.isEmpty, Nat.reduceLT, Nat.reduceAdd, Nat.reduceMul, Nat.reduceLeDiff, Nat.reduceSub, Nat.reduceEqDiff, reduceCtorEq, reduceIte, ↓Opt.is, ↓Opt.no, ↓Asks.yes, ↓Asks.no, tyL, encL, leL, leD, ne_eq, frL, preM, postM, keysM, B.okM, List.mem_cons, List.not_mem_nil, or_false, false_or, true_or, or_true]; repeat (first | refine aq ?_ | refine ap (by rfl : apartB 0 _ _ = true) ?_ | refine ak ?_ | refine ab ?_ | refine al ?_ | ((first | refine ar ?_ | refine ad ty_mix (by kernel_rfl) ?_ | refine ac ?_ | refine ae ?_ | with_reducible refine Later.mk ?_); simp only [evD, evL, iteL, S.arg.eq_12, S.asL.eq_6, St.said, St.asked, evStep, evOp, evP, St.init, St.app, srcStep, kill, setMany, loadS, fieldS, buildS, toks, Fin, upd_app, Array.isEmpty, Nat.reduceLT, Nat.reduceAdd, Nat.reduceMul, Nat.reduceLeDiff, Nat.reduceSub, Nat.reduceEqDiff, reduceCtorEq, reduceIte, ↓Opt.is, ↓Opt.no, ↓Asks.yes, ↓Asks.no, tyL, encL, asB]))
  refine Ab.ret ?_; simp only [evD, evL, iteL, S.arg.eq_12, S.asL.eq_6, St.said, St.asked, evStep, evOp, evP, St.init, St.app, srcStep, kill, setMany, loadS, fieldS, buildS, toks, Fin, upd_app, Array.isEmpty, Nat.reduceLT, Nat.reduceAdd, Nat.reduceMul, Nat.reduceLeDiff, Nat.reduceSub, Nat.reduceEqDiff, reduceCtorEq, reduceIte, ↓Opt.is, ↓Opt.no, ↓Asks.yes, ↓Asks.no, tyL, List.nodup_cons, encL, Tryd.f31]
theorem specParetoOptimalRepairs_a {n : Int} {l p : List Edg} (gE : (eSlice eEdg).good l) (gP : (eSlice eEdg).good p) (hl : l.length ≤ 1048576) (hp : p.length ≤ 1048576) : AC Tryd.prog 29 [.d (.v (.int .i64 n)), .d (encEs l), .d (encEs p)] (.d (encIss (parR n l p))) := by
  have hc1 := specMaximalIndependentSets_a (n := n) gE hl
  have hlen := miL_len n l
  have hmem := fun s h => miL_mem (n := n) (l := l) (s := s) h
  have z3 : ∀ x : Nat, (0 ≤ (x : Int)) = True := fun x => eq_true (by omega)
  unfold parR
  generalize miL n l = R at *
  refine AC.intro Tryd.func29 rfl (by decide) (by simp [S.res, S.ress]) (by simp [S.os, S.oss]) (by simp [S.wfs, S.wf, dbS]) (by simp [Tryd.f29]) ?_; rw [Tryd.ntmps29]
  repeat (first | refine aq ?_ | refine ap (by rfl : apartB 0 _ _ = true) ?_ | refine ak ?_ | refine ab ?_ | refine al ?_ | ((first | refine ar ?_ | refine ad ty_mix (by kernel_rfl) ?_ | refine ac ?_ | refine ae ?_ | with_reducible refine Later.mk ?_); simp only [evD, evL, iteL, S.arg.eq_12, S.asL.eq_6, St.said, St.asked, evStep, evOp, evP, St.init, St.app, srcStep, kill, setMany, loadS, fieldS, buildS, toks, Fin, upd_app, Array.isEmpty, Nat.reduceLT, Nat.reduceAdd, Nat.reduceMul, Nat.reduceLeDiff, Nat.reduceSub, Nat.reduceEqDiff, reduceCtorEq, reduceIte, ↓Opt.is, ↓Opt.no, ↓Asks.yes, ↓Asks.no, tyL, encL, asB]))
  refine ⟨_, hc1, ?_⟩; (repeat (first | refine ap (by rfl : apartB 0 _ _ = true) ?_ | refine ap (by simp [osL, D.flat]) ?_)); repeat (first | refine aq ?_ | refine ap (by rfl : apartB 0 _ _ = true) ?_ | refine ak ?_ | refine ab ?_ | refine al ?_ | ((first | refine ar ?_ | refine ad ty_mix (by kernel_rfl) ?_ | refine ac ?_ | refine ae ?_ | with_reducible refine Later.mk ?_); simp only [evD, evL, iteL, S.arg.eq_12, S.asL.eq_6, St.said, St.asked, evStep, evOp, evP, St.init, St.app, srcStep, kill, setMany, loadS, fieldS, buildS, toks, Fin, upd_app, Array.isEmpty, Nat.reduceLT, Nat.reduceAdd, Nat.reduceMul, Nat.reduceLeDiff, Nat.reduceSub, Nat.reduceEqDiff, reduceCtorEq, reduceIte, ↓Opt.is, ↓Opt.no, ↓Asks.yes, ↓Asks.no, tyL, encL, asB]))
  refine Ab.loopI R.length (fun _ => True) (fun i => mkS 36 [(0, .d (.v (.int .i64 n))), (1, .d (.sl (List.map encE l))), (2, .d (.sl (List.map encE p))), (7, .g 16 (((R.take i).filter (parOk n l p)).map encB)), (8, .d (.sl (R.map encB))), (9, .d (.v (.int .i64 (i : Int))))] [(16, .tip false 46 1 (((R.take i).filter (parOk n l p)).map encB))] 160) trivial ?_ ?_
  · ((first | refine Le.mk rfl ?_ ?_ | refine LeTo.mk rfl ?_ ?_) <;> simp only [evD, evL, iteL, S.arg.eq_12, S.asL.eq_6, St.said, St.asked, evStep, evOp, evP, St.init, St.app, srcStep, kill, setMany, loadS, fieldS, buildS, toks, Fin, upd_app, Array.isEmpty, Nat.reduceLT, Nat.reduceAdd, Nat.reduceMul, Nat.reduceLeDiff, Nat.reduceSub, Nat.reduceEqDiff, reduceCtorEq, reduceIte, ↓Opt.is, ↓Opt.no, ↓Asks.yes, ↓Asks.no, tyL, encL, leL, leD, ne_eq, List.take_zero, List.filter_nil, List.map_nil])
  intro i hi _
  repeat (first | refine aq ?_ | refine ap (by rfl : apartB 0 _ _ = true) ?_ | refine ak ?_ | refine ab ?_ | refine al ?_ | ((first | refine ar ?_ | refine ad ty_mix (by kernel_rfl) ?_ | refine ac ?_ | refine ae ?_ | with_reducible refine Later.mk ?_); simp only [evD, evL, iteL, S.arg.eq_12, S.asL.eq_6, St.said, St.asked, evStep, evOp, evP, St.init, St.app, srcStep, kill, setMany, loadS, fieldS, buildS, toks, Fin, upd_app, Array.isEmpty, Nat.reduceLT, Nat.reduceAdd, Nat.reduceMul, Nat.reduceLeDiff, Nat.reduceSub, Nat.reduceEqDiff, reduceCtorEq, reduceIte, ↓Opt.is, ↓Opt.no, ↓Asks.yes, ↓Asks.no, tyL, encL, mkS, updl, asB]))
  refine ⟨fun h => ?_, fun h => ?_⟩
  · have h : i < R.length := by simpa using h
    have hw := wrapN h (by omega)
    have hgb := getB h
    obtain ⟨m1, m2⟩ := hmem _ (List.getElem_mem h)
    have hc := specIsParetoOptimal_a (n := n) gE gP m2 hl hp (by omega)
    have hll : ((R.take i).filter (parOk n l p)).length ≤ i := Nat.le_trans (List.length_filter_le _ _) (by rw [List.length_take]; omega)
    have hs : (R.take (i + 1)).filter (parOk n l p) = (R.take i).filter (parOk n l p) ++ (if parOk n l p R[i] = true then [R[i]] else []) := by
      rw [List.take_succ_eq_append_getElem h, List.filter_append]
      simp only [List.filter_cons, List.filter_nil]
    generalize parOk n l p = ok at *
    generalize (R.take i).filter ok = U at *
    generalize (R.take (i + 1)).filter ok = U2 at *
    generalize R[i] = x at *
    by_cases c : ok x = true
    · rw [if_pos c] at hs
      rw [c] at hc
      repeat (first | refine aq ?_ | refine ap (by rfl : apartB 0 _ _ = true) ?_ | refine ak ?_ | refine ab ?_ | refine al ?_ | ((first | refine ar ?_ | refine ad ty_mix (by kernel_rfl) ?_ | refine ac ?_ | refine ae ?_ | with_reducible refine Later.mk ?_); simp only [evD, evL, iteL, S.arg.eq_12, S.asL.eq_6, St.said, St.asked, evStep, evOp, evP, St.init, St.app, srcStep, kill, setMany, loadS, fieldS, buildS, toks, Fin, upd_app, Array.isEmpty, Nat.reduceLT, Nat.reduceAdd, Nat.reduceMul, Nat.reduceLeDiff, Nat.reduceSub, Nat.reduceEqDiff, reduceCtorEq, reduceIte, ↓Opt.is, ↓Opt.no, ↓Asks.yes, ↓Asks.no, tyL, encL, hgb, z3, asB]))
      refine ⟨_, hc, ?_⟩; (repeat (first | refine ap (by rfl : apartB 0 _ _ = true) ?_ | refine ap (by simp [osL, D.flat]) ?_)); repeat (first | refine aq ?_ | refine ap (by rfl : apartB 0 _ _ = true) ?_ | refine ak ?_ | refine ab ?_ | refine al ?_ | ((first | refine ar ?_ | refine ad ty_mix (by kernel_rfl) ?_ | refine ac ?_ | refine ae ?_ | with_reducible refine Later.mk ?_); simp only [evD, evL, iteL, S.arg.eq_12, S.asL.eq_6, St.said, St.asked, evStep, evOp, evP, St.init, St.app, srcStep, kill, setMany, loadS, fieldS, buildS, toks, Fin, upd_app, Array.isEmpty, Nat.reduceLT, Nat.reduceAdd, Nat.reduceMul, Nat.reduceLeDiff, Nat.reduceSub, Nat.reduceEqDiff, reduceCtorEq, reduceIte, ↓Opt.is, ↓Opt.no, ↓Asks.yes, ↓Asks.no, tyL, encL, hgb, z3, asB]))
      refine ⟨fun e he => by subst he; rfl, false, (fun h => by cases h), Later.mk ?_⟩
      simp only [evD, evL, iteL, S.arg.eq_12, S.asL.eq_6, St.said, St.asked, evStep, evOp, evP, St.init, St.app, srcStep, kill, setMany, loadS, fieldS, buildS, toks, Fin, upd_app, Array.isEmpty, Nat.reduceLT, Nat.reduceAdd, Nat.reduceMul, Nat.reduceLeDiff, Nat.reduceSub, Nat.reduceEqDiff, reduceCtorEq, reduceIte, ↓Opt.is, ↓Opt.no, ↓Asks.yes, ↓Asks.no, tyL, encL]
      refine ⟨by simp only [maxLen]; omega, by omega, ?_⟩
      repeat (first | refine aq ?_ | refine ap (by rfl : apartB 0 _ _ = true) ?_ | refine ak ?_ | refine ab ?_ | refine al ?_ | ((first | refine ar ?_ | refine ad ty_mix (by kernel_rfl) ?_ | refine ac ?_ | refine ae ?_ | with_reducible refine Later.mk ?_); simp only [evD, evL, iteL, S.arg.eq_12, S.asL.eq_6, St.said, St.asked, evStep, evOp, evP, St.init, St.app, srcStep, kill, setMany, loadS, fieldS, buildS, toks, Fin, upd_app, Array.isEmpty, Nat.reduceLT, Nat.reduceAdd, Nat.reduceMul, Nat.reduceLeDiff, Nat.reduceSub, Nat.reduceEqDiff, reduceCtorEq, reduceIte, ↓Opt.is, ↓Opt.no, ↓Asks.yes, ↓Asks.no, tyL, encL, hw, asB]))
      refine ⟨h, ?_⟩
      ((first | refine Le.mk rfl ?_ ?_ | refine LeTo.mk rfl ?_ ?_) <;> simp only [evD, evL, iteL, S.arg.eq_12, S.asL.eq_6, St.said, St.asked, evStep, evOp, evP, St.init, St.app, srcStep, kill, setMany, loadS, fieldS, buildS, toks, Fin, upd_app, Array.isEmpty, Nat.reduceLT, Nat.reduceAdd, Nat.reduceMul, Nat.reduceLeDiff, Nat.reduceSub, Nat.reduceEqDiff, reduceCtorEq, reduceIte, ↓Opt.is, ↓Opt.no, ↓Asks.yes, ↓Asks.no, tyL, encL, leL, leD, ne_eq, hs, List.map_append, List.map_cons, List.map_nil, encB])
    · have c2 : ok x = false := by simpa using c
      rw [if_neg c, List.append_nil] at hs
      rw [c2] at hc
      repeat (first | refine aq ?_ | refine ap (by rfl : apartB 0 _ _ = true) ?_ | refine ak ?_ | refine ab ?_ | refine al ?_ | ((first | refine ar ?_ | refine ad ty_mix (by kernel_rfl) ?_ | refine ac ?_ | refine ae ?_ | with_reducible refine Later.mk ?_); simp only [evD, evL, iteL, S.arg.eq_12, S.asL.eq_6, St.said, St.asked, evStep, evOp, evP, St.init, St.app, srcStep, kill, setMany, loadS, fieldS, buildS, toks, Fin, upd_app, Array.isEmpty, Nat.reduceLT, Nat.reduceAdd, Nat.reduceMul, Nat.reduceLeDiff, Nat.reduceSub, Nat.reduceEqDiff, reduceCtorEq, reduceIte, ↓Opt.is, ↓Opt.no, ↓Asks.yes, ↓Asks.no, tyL, encL, hgb, z3, asB]))
      refine ⟨_, hc, ?_⟩; (repeat (first | refine ap (by rfl : apartB 0 _ _ = true) ?_ | refine ap (by simp [osL, D.flat]) ?_)); repeat (first | refine aq ?_ | refine ap (by rfl : apartB 0 _ _ = true) ?_ | refine ak ?_ | refine ab ?_ | refine al ?_ | ((first | refine ar ?_ | refine ad ty_mix (by kernel_rfl) ?_ | refine ac ?_ | refine ae ?_ | with_reducible refine Later.mk ?_); simp only [evD, evL, iteL, S.arg.eq_12, S.asL.eq_6, St.said, St.asked, evStep, evOp, evP, St.init, St.app, srcStep, kill, setMany, loadS, fieldS, buildS, toks, Fin, upd_app, Array.isEmpty, Nat.reduceLT, Nat.reduceAdd, Nat.reduceMul, Nat.reduceLeDiff, Nat.reduceSub, Nat.reduceEqDiff, reduceCtorEq, reduceIte, ↓Opt.is, ↓Opt.no, ↓Asks.yes, ↓Asks.no, tyL, encL, hgb, z3, hw, asB]))
      refine ⟨h, ?_⟩
      ((first | refine Le.mk rfl ?_ ?_ | refine LeTo.mk rfl ?_ ?_) <;> simp only [evD, evL, iteL, S.arg.eq_12, S.asL.eq_6, St.said, St.asked, evStep, evOp, evP, St.init, St.app, srcStep, kill, setMany, loadS, fieldS, buildS, toks, Fin, upd_app, Array.isEmpty, Nat.reduceLT, Nat.reduceAdd, Nat.reduceMul, Nat.reduceLeDiff, Nat.reduceSub, Nat.reduceEqDiff, reduceCtorEq, reduceIte, ↓Opt.is, ↓Opt.no, ↓Asks.yes, ↓Asks.no, tyL, encL, leL, leD, ne_eq, hs])
  · have h : i = R.length := by have := of_decide_eq_false h; omega
    subst h
    rw [List.take_length]
    repeat (first | refine aq ?_ | refine ap (by rfl : apartB 0 _ _ = true) ?_ | refine ak ?_ | refine ab ?_ | refine al ?_ | ((first | refine ar ?_ | refine ad ty_mix (by kernel_rfl) ?_ | refine ac ?_ | refine ae ?_ | with_reducible refine Later.mk ?_); simp only [evD, evL, iteL, S.arg.eq_12, S.asL.eq_6, St.said, St.asked, evStep, evOp, evP, St.init, St.app, srcStep, kill, setMany, loadS, fieldS, buildS, toks, Fin, upd_app, Array.isEmpty, Nat.reduceLT, Nat.reduceAdd, Nat.reduceMul, Nat.reduceLeDiff, Nat.reduceSub, Nat.reduceEqDiff, reduceCtorEq, reduceIte, ↓Opt.is, ↓Opt.no, ↓Asks.yes, ↓Asks.no, tyL, encL, asB]))
    refine Ab.ret ?_; simp only [evD, evL, iteL, S.arg.eq_12, S.asL.eq_6, St.said, St.asked, evStep, evOp, evP, St.init, St.app, srcStep, kill, setMany, loadS, fieldS, buildS, toks, Fin, upd_app, Array.isEmpty, Nat.reduceLT, Nat.reduceAdd, Nat.reduceMul, Nat.reduceLeDiff, Nat.reduceSub, Nat.reduceEqDiff, reduceCtorEq, reduceIte, ↓Opt.is, ↓Opt.no, ↓Asks.yes, ↓Asks.no, tyL, List.nodup_cons, encL, Tryd.f29]
end Go.Proofs.YtgipcnofonejcaaDoor.Ab
end

section
/- Chapter 28: how much memory the Pareto-optimal repairs take. -/
open Go Go.Proofs Go.RowKit
namespace Go.Proofs.YtgipcnofonejcaaDoor.Ab
theorem parR_lvs (n : Int) (l p : List Edg) : lvs List.length (parR n l p) ≤ 4611686018427000000 := by
  have h1 := lvs_each (parR n l p) (fun s hs => (parR_mem hs).1)
  have h2 := parR_len n l p
  omega
end Go.Proofs.YtgipcnofonejcaaDoor.Ab
end

section
/- ParetoOptimalRepairs: the contracts of the layer for the law. Written by gen/backc.py. -/
open Go Go.Proofs Go.RowKit
namespace Go.Proofs.YtgipcnofonejcaaDoor.Ab
set_option linter.unusedSimpArgs false
set_option linter.unusedVariables false
set_option maxRecDepth 100000
theorem _root_.Go.Proofs.YtgipcnofonejcaaDoor.implParetoOptimalRepairs_c {a0 : Int} {a1 : Option Addr} {cap1 : Nat} {l1 : List Edg} {a2 : Option Addr} {cap2 : Nat} {l2 : List Edg} {w : World} (hz1 : l1.length ≤ 1048576) (hz2 : l2.length ≤ 1048576) (h1 : At (cSlice cEdg) w l1 [.slice a1 l1.length cap1]) (h2 : At (cSlice cEdg) w l2 [.slice a2 l2.length cap2]) (hg : Glob w := by exact trivial) :
    Calls Tryd.prog 31 #[.int .i64 a0, .slice a1 l1.length cap1, .slice a2 l2.length cap2] w fun e w' => (∃ a cap, e = .returned (.slice a (Ab.parR a0 l1 l2).length cap) ∧ Own (cSlice (cSlice cInt)) w.heap.size w' (Ab.parR a0 l1 l2) [.slice a (Ab.parR a0 l1 l2).length cap]) ∧ Below w.heap.size w w' := by
  have hgood : (eSlice (eSlice eInt)).good (Ab.parR a0 l1 l2) := parR_good a0 l1 l2
  refine Calls.mono (((implParetoOptimalRepairs_a (n := a0) ((eSlice eEdg).gd h1) ((eSlice eEdg).gd h2) hz1 hz2)).call (cs := [_, _, _]) ?_) ?_
  · simp only [RdSs]
    exact ⟨_, _, rfl, (RdS.ofVal _ _ rfl), ⟨_, _, rfl, ((eSlice eEdg).arg1 (x := l1) rfl h1), ⟨_, _, rfl, ((eSlice eEdg).arg1 (x := l2) rfl h2), rfl⟩⟩⟩
  · rintro e w' ⟨c, rfl, q1, q2⟩
    obtain ⟨F, ho, _⟩ := id ((eSlice (eSlice eInt)).own1 (x := Ab.parR a0 l1 l2) rfl hgood q1)
    have hq := (eSlice (eSlice eInt)).own1 (x := Ab.parR a0 l1 l2) rfl hgood q1
    obtain ⟨a, cap, e, _⟩ := ho
    injection e with e
    subst e
    exact ⟨⟨a, cap, rfl, hq⟩, q2⟩
theorem _root_.Go.Proofs.YtgipcnofonejcaaDoor.specParetoOptimalRepairs_c {a0 : Int} {a1 : Option Addr} {cap1 : Nat} {l1 : List Edg} {a2 : Option Addr} {cap2 : Nat} {l2 : List Edg} {w : World} (hz1 : l1.length ≤ 1048576) (hz2 : l2.length ≤ 1048576) (h1 : At (cSlice cEdg) w l1 [.slice a1 l1.length cap1]) (h2 : At (cSlice cEdg) w l2 [.slice a2 l2.length cap2]) (hg : Glob w := by exact trivial) :
    Calls Tryd.prog 29 #[.int .i64 a0, .slice a1 l1.length cap1, .slice a2 l2.length cap2] w fun e w' => (∃ a cap, e = .returned (.slice a (Ab.parR a0 l1 l2).length cap) ∧ At (cSlice (cSlice cInt)) w' (Ab.parR a0 l1 l2) [.slice a (Ab.parR a0 l1 l2).length cap]) ∧ Below w.heap.size w w' := by
  have hgood : (eSlice (eSlice eInt)).good (Ab.parR a0 l1 l2) := parR_good a0 l1 l2
  refine Calls.mono (((specParetoOptimalRepairs_a (n := a0) ((eSlice eEdg).gd h1) ((eSlice eEdg).gd h2) hz1 hz2)).call (cs := [_, _, _]) ?_) ?_
  · simp only [RdSs]
    exact ⟨_, _, rfl, (RdS.ofVal _ _ rfl), ⟨_, _, rfl, ((eSlice eEdg).arg1 (x := l1) rfl h1), ⟨_, _, rfl, ((eSlice eEdg).arg1 (x := l2) rfl h2), rfl⟩⟩⟩
  · rintro e w' ⟨c, rfl, q1, q2⟩
    have hq := RdV.at1 (p := (eSlice (eSlice eInt))) (x := Ab.parR a0 l1 l2) rfl hgood q1 q2.size
    have ho := hq
    obtain ⟨a, cap, e, _⟩ := ho
    injection e with e
    subst e
    exact ⟨⟨a, cap, rfl, hq⟩, q2⟩
end Go.Proofs.YtgipcnofonejcaaDoor.Ab
end
