/- Chapter 28: preferences between facts in conflict: pure. -/
import Derived.Test.YthkbmfpgdidfhabDoorGrfP
open Go Go.Proofs Go.RowKit
namespace Go.Proofs.YthkbmfpgdidfhabDoor.Ab
set_option linter.unusedSimpArgs false
set_option linter.unusedVariables false
set_option maxRecDepth 100000
/-- Is there an edge between the two, as the model asks it? -/
def edgeP (l : List Edg) (a b : Int) : Bool := l.any fun e => decide (e.a = min a b) && decide (e.b = max a b)
def hasPE (n : Nat) (l : List Edg) (a b : Int) : Bool := (decide (0 ≤ a) && decide (a < (n : Int))) && ((decide (0 ≤ b) && decide (b < (n : Int))) && adjE l a.toNat b.toNat)
theorem has_edge {n : Nat} {l : List Edg} (hl : okN n l) (a b : Int) : hasPE n l a b = (!decide (a = b) && edgeP l a b) := by
  unfold hasPE edgeP adjE
  rw [Bool.eq_iff_iff]
  simp only [Bool.and_eq_true, List.any_eq_true, Bool.or_eq_true, Bool.not_eq_true', decide_eq_true_eq, decide_eq_false_iff_not]
  constructor
  · rintro ⟨⟨h1, h2⟩, ⟨h3, h4⟩, e, he, h5⟩
    have := hl e he
    refine ⟨by omega, e, he, by omega, by omega⟩
  · rintro ⟨h1, e, he, h2, h3⟩
    have := hl e he
    refine ⟨⟨by omega, by omega⟩, ⟨by omega, by omega⟩, e, he, by omega⟩
def prE (n : Nat) (l p : List Edg) : Bool := p.all fun e => hasPE n l e.a e.b
def isPr (p : List Edg) (a b : Int) : Bool := p.any fun e => decide (e.a = a) && decide (e.b = b)
def okP (n : Nat) (p : List Edg) : Prop := ∀ e, e ∈ p → 0 ≤ e.a ∧ e.a < (n : Int) ∧ 0 ≤ e.b ∧ e.b < (n : Int)
theorem prE_ok {n : Nat} {l p : List Edg} (h : prE n l p = true) : okP n p := fun e he => by
  unfold prE at h
  have := List.all_eq_true.1 h e he
  unfold hasPE at this
  simp only [Bool.and_eq_true, decide_eq_true_eq] at this
  omega
def wrs (n : Nat) (p : List Edg) : List Nat := p.foldl (fun G e => addB G e.a.toNat e.b.toNat) (List.replicate n 0)
theorem wrs_snoc (n : Nat) (p : List Edg) (e : Edg) : wrs n (p ++ [e]) = addB (wrs n p) e.a.toNat e.b.toNat := by
  unfold wrs
  rw [List.foldl_append]
  rfl
theorem foldw_len (p : List Edg) : ∀ G : List Nat, (p.foldl (fun G e => addB G e.a.toNat e.b.toNat) G).length = G.length := by
  induction p with
  | nil => intro G; rfl
  | cons e l ih => intro G; rw [List.foldl_cons, ih, addB_len]
theorem wrs_len (n : Nat) (p : List Edg) : (wrs n p).length = n := by
  unfold wrs
  rw [foldw_len, List.length_replicate]
theorem foldw_test {n : Nat} : ∀ (p : List Edg) (G : List Nat), okP n p → G.length = n → ∀ x y : Nat, ((p.foldl (fun G e => addB G e.a.toNat e.b.toNat) G).getD x 0).testBit y = ((G.getD x 0).testBit y || isPr p x y)
  | [], G, _, _, x, y => by simp [isPr]
  | e :: l, G, h, hn, x, y => by
    obtain ⟨h1, h2, h3, h4⟩ := h e (by simp)
    rw [List.foldl_cons, foldw_test l _ (fun z hz => h z (List.mem_cons_of_mem _ hz)) (by rw [addB_len, hn]), addB_test _ _ _ _ (by omega)]
    unfold isPr
    rw [List.any_cons, Bool.or_assoc]
    congr 1
    congr 1
    rw [Bool.eq_iff_iff]
    simp only [Bool.and_eq_true, decide_eq_true_eq]
    omega
theorem wrs_test {n : Nat} {p : List Edg} (h : okP n p) (x y : Nat) : ((wrs n p).getD x 0).testBit y = isPr p x y := by
  unfold wrs
  rw [foldw_test p _ h (by rw [List.length_replicate])]
  have : (List.replicate n 0).getD x 0 = 0 := by
    rw [List.getD_eq_getElem?_getD, List.getElem?_replicate]
    split <;> rfl
  rw [this, Nat.zero_testBit, Bool.false_or]
theorem isPr_in {n : Nat} {p : List Edg} (h : okP n p) {x y : Nat} (hp : isPr p x y = true) : x < n ∧ y < n := by
  unfold isPr at hp
  rw [List.any_eq_true] at hp
  obtain ⟨e, he, h2⟩ := hp
  have := h e he
  simp only [Bool.and_eq_true, decide_eq_true_eq] at h2
  omega
theorem wrs_lt {n : Nat} {p : List Edg} (h : okP n p) (hn : n ≤ 64) (x : Nat) : (wrs n p).getD x 0 < 18446744073709551616 := by
  apply Nat.lt_pow_two_of_testBit (n := 64)
  intro i hi
  rw [wrs_test h, Bool.eq_false_iff]
  intro ha
  have := isPr_in h ha
  omega
/-- What is in the one and not in the other. -/
def andNot (a b : Nat) : Nat := a ^^^ (a &&& b)
theorem andNot_test (a b i : Nat) : (andNot a b).testBit i = (a.testBit i && !b.testBit i) := by
  unfold andNot
  rw [Nat.testBit_xor, Nat.testBit_and]
  cases a.testBit i <;> cases b.testBit i <;> rfl
/-- Those of S that none of the first of the list beats. -/
def undP (W : List Nat) (S : Nat) : List Int → Nat
  | [] => S
  | v :: l => andNot (undP W S l) (W.getD v.toNat 0)
theorem undP_test (W : List Nat) (S y : Nat) : ∀ l : List Int, (undP W S l).testBit y = (S.testBit y && l.all fun v => !(W.getD v.toNat 0).testBit y)
  | [] => by simp [undP]
  | v :: l => by
    rw [undP, andNot_test, undP_test W S y l, List.all_cons]
    cases S.testBit y <;> cases (l.all fun v => !(W.getD v.toNat 0).testBit y) <;> cases (W.getD v.toNat 0).testBit y <;> rfl
def undS (W : List Nat) (S : Nat) : Nat := undP W S (elemsN 64 S).reverse
theorem undS_test {n : Nat} {p : List Edg} (h : okP n p) (hn : n ≤ 64) (S y : Nat) : (undS (wrs n p) S).testBit y = true ↔ S.testBit y = true ∧ ∀ x : Nat, S.testBit x = true → isPr p x y = false := by
  unfold undS
  rw [undP_test, Bool.and_eq_true, List.all_reverse, List.all_eq_true]
  constructor
  · rintro ⟨h1, h2⟩
    refine ⟨h1, fun x hx => ?_⟩
    cases hp : isPr p x y with
    | false => rfl
    | true =>
      have hi := isPr_in h hp
      have := h2 (x : Int) (elems_mem.2 ⟨x, by omega, hx, rfl⟩)
      rw [Int.toNat_natCast, wrs_test h, hp] at this
      simp at this
  · rintro ⟨h1, h2⟩
    refine ⟨h1, fun v hv => ?_⟩
    obtain ⟨x, h3, h4, rfl⟩ := elems_mem.1 hv
    rw [Int.toNat_natCast, wrs_test h, h2 x h4]
    rfl
/-- A set each of whose members is beaten by another of it. -/
def stuck (n : Nat) (p : List Edg) (T : Nat → Prop) : Prop := (∃ x, T x) ∧ ∀ y, T y → y < n ∧ ∃ x, T x ∧ isPr p x y = true
theorem andNot_und_le {W : List Nat} {S : Nat} (h : undS W S ≠ 0) : andNot S (undS W S) < S := by
  have hsub : ∀ i, (undS W S).testBit i = true → S.testBit i = true := fun i hi => by
    unfold undS at hi
    rw [undP_test, Bool.and_eq_true] at hi
    exact hi.1
  have e1 : andNot S (undS W S) &&& S = andNot S (undS W S) := by
    apply Nat.eq_of_testBit_eq
    intro i
    rw [Nat.testBit_and, andNot_test]
    cases S.testBit i <;> cases (undS W S).testBit i <;> rfl
  have h1 : andNot S (undS W S) ≤ S := by rw [← e1]; exact Nat.and_le_right
  have h2 : andNot S (undS W S) ≠ S := fun e => by
    apply h
    apply Nat.eq_of_testBit_eq
    intro i
    have e2 := congrArg (fun z => Nat.testBit z i) e
    simp only [andNot_test] at e2
    have := hsub i
    revert this e2
    rw [Nat.zero_testBit]
    cases S.testBit i <;> cases (undS W S).testBit i <;> simp
  omega
/-- What is left in the end. -/
def acyP (W : List Nat) (S : Nat) : Nat := if h : undS W S = 0 then S else acyP W (andNot S (undS W S))
termination_by S
decreasing_by exact andNot_und_le h
theorem acyP_stuck {n : Nat} {p : List Edg} (h : okP n p) (hn : n ≤ 64) {T : Nat → Prop} (ht : stuck n p T) : ∀ S : Nat, (∀ x, T x → S.testBit x = true) → acyP (wrs n p) S ≠ 0 := by
  intro S
  induction S using Nat.strongRecOn with
  | ind S ih =>
    intro hS
    rw [acyP]
    split
    · obtain ⟨x, hx⟩ := ht.1
      have := hS x hx
      intro e
      rw [e, Nat.zero_testBit] at this
      exact absurd this (by simp)
    · rename_i hu
      refine ih _ (andNot_und_le hu) (fun y hy => ?_)
      rw [andNot_test, hS y hy, Bool.true_and, Bool.not_eq_true', Bool.eq_false_iff]
      intro hq
      obtain ⟨_, x, hx, hp⟩ := ht.2 y hy
      rw [((undS_test h hn S y).1 hq).2 x (hS x hx)] at hp
      exact absurd hp (by simp)
theorem acyP_ne {n : Nat} {p : List Edg} (h : okP n p) (hn : n ≤ 64) : ∀ S : Nat, (∀ x, S.testBit x = true → x < n) → acyP (wrs n p) S ≠ 0 → ∃ T, stuck n p T := by
  intro S
  induction S using Nat.strongRecOn with
  | ind S ih =>
    intro hS
    rw [acyP]
    split
    · rename_i hu
      intro hne
      refine ⟨fun x => S.testBit x = true, ?_, fun y hy => ⟨hS y hy, ?_⟩⟩
      · apply Classical.byContradiction
        intro hno
        apply hne
        apply Nat.eq_of_testBit_eq
        intro i
        rw [Nat.zero_testBit, Bool.eq_false_iff]
        exact fun hi => hno ⟨i, hi⟩
      · apply Classical.byContradiction
        intro hno
        have : (undS (wrs n p) S).testBit y = true := (undS_test h hn S y).2 ⟨hy, fun x hx => by
          cases hp : isPr p x y with
          | false => rfl
          | true => exact absurd ⟨x, hx, hp⟩ hno⟩
        rw [hu, Nat.zero_testBit] at this
        exact absurd this (by simp)
    · rename_i hu
      refine ih _ (andNot_und_le hu) (fun x hx => ?_)
      rw [andNot_test, Bool.and_eq_true] at hx
      exact hS x hx.1
/-- The model's rounds. -/
def freeG (p : List Edg) (g : List Bool) (x : Nat) : Bool := p.all fun e => !decide (e.b = (x : Int)) || g.getD e.a.toNat false
def swG (p : List Edg) (g : List Bool) : Nat → List Bool
  | 0 => g
  | x + 1 => if freeG p (swG p g x) x = true then (swG p g x).set x true else swG p g x
def rdG (p : List Edg) (n : Nat) : Nat → List Bool
  | 0 => List.replicate n false
  | k + 1 => swG p (rdG p n k) n
theorem swG_len (p : List Edg) (g : List Bool) : ∀ x, (swG p g x).length = g.length
  | 0 => rfl
  | x + 1 => by
    rw [swG]
    split
    · rw [List.length_set, swG_len p g x]
    · exact swG_len p g x
theorem rdG_len (p : List Edg) (n : Nat) : ∀ k, (rdG p n k).length = n
  | 0 => List.length_replicate
  | k + 1 => by rw [rdG, swG_len, rdG_len p n k]
theorem set_getD (g : List Bool) (x y : Nat) : (g.set x true).getD y false = (g.getD y false || (decide (y = x) && decide (x < g.length))) := by
  rw [List.getD_eq_getElem?_getD, List.getD_eq_getElem?_getD, List.getElem?_set]
  by_cases h : x = y
  · subst h
    rw [if_pos rfl, decide_eq_true rfl, Bool.true_and]
    by_cases h2 : x < g.length
    · rw [if_pos h2, decide_eq_true h2, Bool.or_true]; rfl
    · rw [if_neg h2, decide_eq_false h2, Bool.or_false, List.getElem?_eq_none (by omega)]
  · rw [if_neg h, decide_eq_false (fun e => h e.symm), Bool.false_and, Bool.or_false]
theorem swG_stuck {n : Nat} {p : List Edg} {T : Nat → Prop} (ht : stuck n p T) {g : List Bool} (hg : ∀ x, T x → g.getD x false = false) : ∀ i x, T x → (swG p g i).getD x false = false
  | 0, x, hx => hg x hx
  | i + 1, x, hx => by
    have ih := swG_stuck ht hg i
    rw [swG]
    split
    · rename_i hf
      rw [set_getD, ih x hx, Bool.false_or, Bool.and_eq_false_iff]
      left
      rw [decide_eq_false_iff_not]
      rintro rfl
      obtain ⟨_, z, hz, hp⟩ := ht.2 x hx
      unfold isPr at hp
      rw [List.any_eq_true] at hp
      obtain ⟨e, he, h2⟩ := hp
      simp only [Bool.and_eq_true, decide_eq_true_eq] at h2
      unfold freeG at hf
      have h3 := List.all_eq_true.1 hf e he
      rw [h2.1, h2.2, Int.toNat_natCast, ih z hz] at h3
      simp at h3
    · exact ih x hx
theorem rdG_stuck {n : Nat} {p : List Edg} {T : Nat → Prop} (ht : stuck n p T) : ∀ k x, T x → (rdG p n k).getD x false = false
  | 0, x, _ => by
    rw [rdG, List.getD_eq_getElem?_getD, List.getElem?_replicate]
    split <;> rfl
  | k + 1, x, hx => swG_stuck ht (rdG_stuck ht k) n x hx
def cntG (g : List Bool) : Nat := g.countP fun b => b
theorem swG_grow (p : List Edg) (g : List Bool) : ∀ i x, g.getD x false = true → (swG p g i).getD x false = true
  | 0, x, h => h
  | i + 1, x, h => by
    have ih := swG_grow p g i x h
    rw [swG]
    split
    · rw [set_getD, ih, Bool.true_or]
    · exact ih
theorem cntG_set (g : List Bool) : ∀ x, x < g.length → cntG (g.set x true) = cntG g + (if g.getD x false = true then 0 else 1) := by
  induction g with
  | nil => intro x h; simp at h
  | cons b g ih =>
    intro x h
    unfold cntG at ih ⊢
    cases x with
    | zero =>
      rw [List.set_cons_zero, List.countP_cons, List.countP_cons, List.getD_cons_zero]
      cases b <;> simp
    | succ x =>
      rw [List.set_cons_succ, List.countP_cons, List.countP_cons, List.getD_cons_succ, ih x (by simpa using h)]
      omega
theorem cntG_sw (p : List Edg) (g : List Bool) : ∀ i, i ≤ g.length → cntG g ≤ cntG (swG p g i) ∧ (cntG (swG p g i) = cntG g → swG p g i = g)
  | 0, _ => ⟨Nat.le_refl _, fun _ => rfl⟩
  | i + 1, h => by
    have ih := cntG_sw p g i (by omega)
    rw [swG]
    split
    · have hc := cntG_set (swG p g i) i (by rw [swG_len]; omega)
      rw [hc]
      refine ⟨by omega, fun e => ?_⟩
      by_cases hb : (swG p g i).getD i false = true
      · rw [if_pos hb] at e
        have e2 := ih.2 (by omega)
        rw [e2] at hb ⊢
        rw [List.getD_eq_getElem?_getD, List.getElem?_eq_getElem (by omega)] at hb
        have hb : g[i] = true := hb
        rw [← hb, List.set_getElem_self]
      · rw [if_neg hb] at e
        have := ih.1
        omega
    · exact ih
theorem cntG_le (g : List Bool) : cntG g ≤ g.length := List.countP_le_length
theorem cntG_full {g : List Bool} (h : cntG g = g.length) : ∀ x, x < g.length → g.getD x false = true := by
  intro x hx
  unfold cntG at h
  rw [List.getD_eq_getElem?_getD, List.getElem?_eq_getElem hx]
  exact List.countP_eq_length.1 h g[x] (List.getElem_mem hx)
/-- A round that changes nothing stays so; else each round takes one away. -/
theorem rd_cnt (p : List Edg) (n : Nat) : ∀ k, k ≤ cntG (rdG p n k) ∨ swG p (rdG p n k) n = rdG p n k
  | 0 => .inl (Nat.zero_le _)
  | k + 1 => by
    have hl := rdG_len p n k
    rcases rd_cnt p n k with h | h
    · have hc := cntG_sw p (rdG p n k) n (by omega)
      by_cases e : cntG (swG p (rdG p n k) n) = cntG (rdG p n k)
      · right
        have e2 := hc.2 e
        rw [rdG, e2]
        exact e2
      · left
        rw [rdG]
        omega
    · right
      rw [rdG, h]
      exact h
theorem sw_fix {p : List Edg} {g : List Bool} {n : Nat} (hn : g.length = n) (h : swG p g n = g) : ∀ i, i ≤ n → swG p g i = g := by
  intro i hi
  have h1 := (cntG_sw p g i (by omega)).1
  have hm : ∀ k, i ≤ k → k ≤ n → cntG (swG p g i) ≤ cntG (swG p g k) := by
    intro k
    induction k with
    | zero => intro a b; rw [Nat.le_zero.1 a]; exact Nat.le_refl _
    | succ k ih =>
      intro a b
      by_cases e : i = k + 1
      · subst e; exact Nat.le_refl _
      · have := ih (by omega) (by omega)
        rw [swG]
        split
        · rw [cntG_set _ _ (by rw [swG_len]; omega)]; omega
        · exact this
  have h2 := hm n hi (Nat.le_refl _)
  rw [h] at h2
  exact (cntG_sw p g i (by omega)).2 (by omega)
def allG (p : List Edg) (n : Nat) : Bool := (rdG p n n).all fun b => b
theorem allG_iff {n : Nat} {p : List Edg} (h : okP n p) : allG p n = false ↔ ∃ T, stuck n p T := by
  have hlen := rdG_len p n n
  unfold allG
  constructor
  · intro hf
    rcases rd_cnt p n n with hc | hc
    · have := cntG_le (rdG p n n)
      have hfull := cntG_full (g := rdG p n n) (by omega)
      exfalso
      have : ((rdG p n n).all fun b => b) = true := List.all_eq_true.2 fun b hb => by
        obtain ⟨i, hi, rfl⟩ := List.getElem_of_mem hb
        have := hfull i hi
        rwa [List.getD_eq_getElem?_getD, List.getElem?_eq_getElem hi] at this
      rw [this] at hf
      exact absurd hf (by simp)
    · have hfix := sw_fix hlen hc
      refine ⟨fun x => x < n ∧ (rdG p n n).getD x false = false, ?_, fun y hy => ⟨hy.1, ?_⟩⟩
      · apply Classical.byContradiction
        intro hno
        have : ((rdG p n n).all fun b => b) = true := List.all_eq_true.2 fun b hb => by
          obtain ⟨i, hi, rfl⟩ := List.getElem_of_mem hb
          cases hb2 : (rdG p n n)[i] with
          | true => rfl
          | false => exact absurd ⟨i, by omega, by rw [List.getD_eq_getElem?_getD, List.getElem?_eq_getElem hi, hb2]; rfl⟩ hno
        rw [this] at hf
        exact absurd hf (by simp)
      · have h1 := hfix (y + 1) (by omega)
        rw [swG, hfix y (by omega)] at h1
        have hnf : ¬ freeG p (rdG p n n) y = true := by
          intro hfr
          rw [if_pos hfr] at h1
          have := set_getD (rdG p n n) y y
          rw [h1, hy.2, decide_eq_true rfl, decide_eq_true (by omega)] at this
          exact absurd this (by simp)
        have hnf : freeG p (rdG p n n) y = false := by simpa using hnf
        unfold freeG at hnf
        rw [List.all_eq_false] at hnf
        obtain ⟨e, he, h2⟩ := hnf
        have h3 := h e he
        simp only [Bool.or_eq_true, Bool.not_eq_true', decide_eq_false_iff_not, not_or, Bool.not_eq_true, Decidable.not_not] at h2
        refine ⟨e.a.toNat, ⟨by omega, h2.2⟩, ?_⟩
        unfold isPr
        rw [List.any_eq_true]
        refine ⟨e, he, ?_⟩
        simp only [Bool.and_eq_true, decide_eq_true_eq]
        exact ⟨by omega, h2.1⟩
  · rintro ⟨T, ht⟩
    obtain ⟨x, hx⟩ := ht.1
    have h1 := (ht.2 x hx).1
    rw [List.all_eq_false]
    refine ⟨(rdG p n n)[x]'(by omega), List.getElem_mem _, ?_⟩
    have := rdG_stuck ht n x hx
    rw [List.getD_eq_getElem?_getD, List.getElem?_eq_getElem (by omega : x < (rdG p n n).length)] at this
    have this : (rdG p n n)[x]'(by omega) = false := this
    rw [this]
    simp
theorem acy_all {n : Nat} {p : List Edg} (h : okP n p) (hn : n ≤ 64) : decide (acyP (wrs n p) (2 ^ n - 1) = 0) = allG p n := by
  rw [Bool.eq_iff_iff, decide_eq_true_eq]
  constructor
  · intro e
    cases ha : allG p n with
    | true => rfl
    | false =>
      obtain ⟨T, ht⟩ := (allG_iff h).1 ha
      exact absurd e (acyP_stuck h hn ht _ fun x hx => by rw [Nat.testBit_two_pow_sub_one]; exact decide_eq_true (ht.2 x hx).1)
  · intro ha
    apply Classical.byContradiction
    intro hne
    have := (allG_iff h).2 (acyP_ne h hn _ (fun x hx => by rw [Nat.testBit_two_pow_sub_one] at hx; exact of_decide_eq_true hx) hne)
    rw [ha] at this
    exact absurd this (by simp)
/-- The promise's answer. -/
def prfOk (n : Int) (l p : List Edg) : Bool := validE n l && (prE n.toNat l p && allG p n.toNat)
end Go.Proofs.YthkbmfpgdidfhabDoor.Ab

