/- Texts behind FnExactPreferredRepairs, put together. -/
import Derived.Test.YtgipcnofonejcaaGreatDoorMgFnExactPreferredRepairsE
set_option linter.unusedSimpArgs false
set_option linter.unusedVariables false
set_option linter.unusedSectionVars false
set_option linter.constructorNameAsVariable false
set_option maxRecDepth 100000
open Nat (reduceLT reduceAdd reduceMul reduceLeDiff reduceSub reduceEqDiff)
namespace Go.Proofs.YtgipcnofonejcaaGreatDoor
section
/- PrfOne: PrfP PrfI PrfM PrfU. -/
/- Chapter 28: preferences between facts in conflict: pure. -/
open Go Go.Proofs Go.RowKit
namespace Ab
def edgeP (l : List Edg) (a b : Int) : Bool := l.any fun e => decide (e.a = min a b) && decide (e.b = max a b)
def hasPE (n : Nat) (l : List Edg) (a b : Int) : Bool := (decide (0 ≤ a) && decide (a < (n : Int))) && ((decide (0 ≤ b) && decide (b < (n : Int))) && adjE l a.toNat b.toNat)
theorem has_edge {n : Nat} {l : List Edg} (hl : okN n l) (a b : Int) : hasPE n l a b = (!decide (a = b) && edgeP l a b) := by
 unfold hasPE edgeP adjE
 rw [Bool.eq_iff_iff]
 simp only [Bool.and_eq_true, List.any_eq_true, Bool.or_eq_true, Bool.not_eq_true', decide_eq_true_eq, decide_eq_false_iff_not]
 constructor
 · rintro ⟨⟨h1, h2⟩, ⟨h3, h4⟩, e, he, h5⟩
   have := hl e he
   refine ⟨by omega, e, he, by omega, by omega⟩
 · rintro ⟨h1, e, he, h2, h3⟩
   have := hl e he
   refine ⟨⟨by omega, by omega⟩, ⟨by omega, by omega⟩, e, he, by omega⟩
def prE (n : Nat) (l p : List Edg) : Bool := p.all fun e => hasPE n l e.a e.b
def isPr (p : List Edg) (a b : Int) : Bool := p.any fun e => decide (e.a = a) && decide (e.b = b)
def okP (n : Nat) (p : List Edg) : Prop := ∀ e, e ∈ p → 0 ≤ e.a ∧ e.a < (n : Int) ∧ 0 ≤ e.b ∧ e.b < (n : Int)
theorem prE_ok {n : Nat} {l p : List Edg} (h : prE n l p = true) : okP n p := fun e he => by
 unfold prE at h
 have := List.all_eq_true.1 h e he
 unfold hasPE at this
 simp only [Bool.and_eq_true, decide_eq_true_eq] at this
 omega
def wrs (n : Nat) (p : List Edg) : List Nat := p.foldl (fun G e => addB G e.a.toNat e.b.toNat) (List.replicate n 0)
theorem wrs_snoc (n : Nat) (p : List Edg) (e : Edg) : wrs n (p ++ [e]) = addB (wrs n p) e.a.toNat e.b.toNat := by
 unfold wrs
 rw [List.foldl_append]
 rfl
theorem foldw_len (p : List Edg) : ∀ G : List Nat, (p.foldl (fun G e => addB G e.a.toNat e.b.toNat) G).length = G.length := by
 induction p with
 | nil => intro G; rfl
 | cons e l ih => intro G; rw [List.foldl_cons, ih, addB_len]
theorem wrs_len (n : Nat) (p : List Edg) : (wrs n p).length = n := by
 unfold wrs
 rw [foldw_len, List.length_replicate]
theorem foldw_test {n : Nat} : ∀ (p : List Edg) (G : List Nat), okP n p → G.length = n → ∀ x y : Nat, ((p.foldl (fun G e => addB G e.a.toNat e.b.toNat) G).getD x 0).testBit y = ((G.getD x 0).testBit y || isPr p x y)
 | [], G, _, _, x, y => by simp [isPr]
 | e :: l, G, h, hn, x, y => by
   obtain ⟨h1, h2, h3, h4⟩ := h e (by simp)
   rw [List.foldl_cons, foldw_test l _ (fun z hz => h z (List.mem_cons_of_mem _ hz)) (by rw [addB_len, hn]), addB_test _ _ _ _ (by omega)]
   unfold isPr
   rw [List.any_cons, Bool.or_assoc]
   congr 1
   congr 1
   rw [Bool.eq_iff_iff]
   simp only [Bool.and_eq_true, decide_eq_true_eq]
   omega
theorem wrs_test {n : Nat} {p : List Edg} (h : okP n p) (x y : Nat) : ((wrs n p).getD x 0).testBit y = isPr p x y := by
 unfold wrs
 rw [foldw_test p _ h (by rw [List.length_replicate])]
 have : (List.replicate n 0).getD x 0 = 0 := by
   rw [List.getD_eq_getElem?_getD, List.getElem?_replicate]
   split <;> rfl
 rw [this, Nat.zero_testBit, Bool.false_or]
theorem isPr_in {n : Nat} {p : List Edg} (h : okP n p) {x y : Nat} (hp : isPr p x y = true) : x < n ∧ y < n := by
 unfold isPr at hp
 rw [List.any_eq_true] at hp
 obtain ⟨e, he, h2⟩ := hp
 have := h e he
 simp only [Bool.and_eq_true, decide_eq_true_eq] at h2
 omega
theorem wrs_lt {n : Nat} {p : List Edg} (h : okP n p) (hn : n ≤ 64) (x : Nat) : (wrs n p).getD x 0 < 18446744073709551616 := by
 apply Nat.lt_pow_two_of_testBit (n := 64)
 intro i hi
 rw [wrs_test h, Bool.eq_false_iff]
 intro ha
 have := isPr_in h ha
 omega
def andNot (a b : Nat) : Nat := a ^^^ (a &&& b)
theorem andNot_test (a b i : Nat) : (andNot a b).testBit i = (a.testBit i && !b.testBit i) := by
 unfold andNot
 rw [Nat.testBit_xor, Nat.testBit_and]
 cases a.testBit i <;> cases b.testBit i <;> rfl
def undP (W : List Nat) (S : Nat) : List Int → Nat
 | [] => S
 | v :: l => andNot (undP W S l) (W.getD v.toNat 0)
theorem undP_test (W : List Nat) (S y : Nat) : ∀ l : List Int, (undP W S l).testBit y = (S.testBit y && l.all fun v => !(W.getD v.toNat 0).testBit y)
 | [] => by simp [undP]
 | v :: l => by
   rw [undP, andNot_test, undP_test W S y l, List.all_cons]
   cases S.testBit y <;> cases (l.all fun v => !(W.getD v.toNat 0).testBit y) <;> cases (W.getD v.toNat 0).testBit y <;> rfl
def undS (W : List Nat) (S : Nat) : Nat := undP W S (elemsN 64 S).reverse
theorem undS_test {n : Nat} {p : List Edg} (h : okP n p) (hn : n ≤ 64) (S y : Nat) : (undS (wrs n p) S).testBit y = true ↔ S.testBit y = true ∧ ∀ x : Nat, S.testBit x = true → isPr p x y = false := by
 unfold undS
 rw [undP_test, Bool.and_eq_true, List.all_reverse, List.all_eq_true]
 constructor
 · rintro ⟨h1, h2⟩
   refine ⟨h1, fun x hx => ?_⟩
   cases hp : isPr p x y with
   | false => rfl
   | true =>
     have hi := isPr_in h hp
     have := h2 (x : Int) (elems_mem.2 ⟨x, by omega, hx, rfl⟩)
     rw [Int.toNat_natCast, wrs_test h, hp] at this
     simp at this
 · rintro ⟨h1, h2⟩
   refine ⟨h1, fun v hv => ?_⟩
   obtain ⟨x, h3, h4, rfl⟩ := elems_mem.1 hv
   rw [Int.toNat_natCast, wrs_test h, h2 x h4]
   rfl
def stuck (n : Nat) (p : List Edg) (T : Nat → Prop) : Prop := (∃ x, T x) ∧ ∀ y, T y → y < n ∧ ∃ x, T x ∧ isPr p x y = true
theorem andNot_und_le {W : List Nat} {S : Nat} (h : undS W S ≠ 0) : andNot S (undS W S) < S := by
 have hsub : ∀ i, (undS W S).testBit i = true → S.testBit i = true := fun i hi => by
   unfold undS at hi
   rw [undP_test, Bool.and_eq_true] at hi
   exact hi.1
 have e1 : andNot S (undS W S) &&& S = andNot S (undS W S) := by
   apply Nat.eq_of_testBit_eq
   intro i
   rw [Nat.testBit_and, andNot_test]
   cases S.testBit i <;> cases (undS W S).testBit i <;> rfl
 have h1 : andNot S (undS W S) ≤ S := by rw [← e1]; exact Nat.and_le_right
 have h2 : andNot S (undS W S) ≠ S := fun e => by
   apply h
   apply Nat.eq_of_testBit_eq
   intro i
   have e2 := congrArg (fun z => Nat.testBit z i) e
   simp only [andNot_test] at e2
   have := hsub i
   revert this e2
   rw [Nat.zero_testBit]
   cases S.testBit i <;> cases (undS W S).testBit i <;> simp
 omega
def acyP (W : List Nat) (S : Nat) : Nat := if h : undS W S = 0 then S else acyP W (andNot S (undS W S))
termination_by S
decreasing_by exact andNot_und_le h
theorem acyP_stuck {n : Nat} {p : List Edg} (h : okP n p) (hn : n ≤ 64) {T : Nat → Prop} (ht : stuck n p T) : ∀ S : Nat, (∀ x, T x → S.testBit x = true) → acyP (wrs n p) S ≠ 0 := by
 intro S
 induction S using Nat.strongRecOn with
 | ind S ih =>
   intro hS
   rw [acyP]
   split
   · obtain ⟨x, hx⟩ := ht.1
     have := hS x hx
     intro e
     rw [e, Nat.zero_testBit] at this
     exact absurd this (by simp)
   · rename_i hu
     refine ih _ (andNot_und_le hu) (fun y hy => ?_)
     rw [andNot_test, hS y hy, Bool.true_and, Bool.not_eq_true', Bool.eq_false_iff]
     intro hq
     obtain ⟨_, x, hx, hp⟩ := ht.2 y hy
     rw [((undS_test h hn S y).1 hq).2 x (hS x hx)] at hp
     exact absurd hp (by simp)
theorem acyP_ne {n : Nat} {p : List Edg} (h : okP n p) (hn : n ≤ 64) : ∀ S : Nat, (∀ x, S.testBit x = true → x < n) → acyP (wrs n p) S ≠ 0 → ∃ T, stuck n p T := by
 intro S
 induction S using Nat.strongRecOn with
 | ind S ih =>
   intro hS
   rw [acyP]
   split
   · rename_i hu
     intro hne
     refine ⟨fun x => S.testBit x = true, ?_, fun y hy => ⟨hS y hy, ?_⟩⟩
     · apply Classical.byContradiction
       intro hno
       apply hne
       apply Nat.eq_of_testBit_eq
       intro i
       rw [Nat.zero_testBit, Bool.eq_false_iff]
       exact fun hi => hno ⟨i, hi⟩
     · apply Classical.byContradiction
       intro hno
       have : (undS (wrs n p) S).testBit y = true := (undS_test h hn S y).2 ⟨hy, fun x hx => by
         cases hp : isPr p x y with
         | false => rfl
         | true => exact absurd ⟨x, hx, hp⟩ hno⟩
       rw [hu, Nat.zero_testBit] at this
       exact absurd this (by simp)
   · rename_i hu
     refine ih _ (andNot_und_le hu) (fun x hx => ?_)
     rw [andNot_test, Bool.and_eq_true] at hx
     exact hS x hx.1
def freeG (p : List Edg) (g : List Bool) (x : Nat) : Bool := p.all fun e => !decide (e.b = (x : Int)) || g.getD e.a.toNat false
def swG (p : List Edg) (g : List Bool) : Nat → List Bool
 | 0 => g
 | x + 1 => if freeG p (swG p g x) x = true then (swG p g x).set x true else swG p g x
def rdG (p : List Edg) (n : Nat) : Nat → List Bool
 | 0 => List.replicate n false
 | k + 1 => swG p (rdG p n k) n
theorem swG_len (p : List Edg) (g : List Bool) : ∀ x, (swG p g x).length = g.length
 | 0 => rfl
 | x + 1 => by
   rw [swG]
   split
   · rw [List.length_set, swG_len p g x]
   · exact swG_len p g x
theorem rdG_len (p : List Edg) (n : Nat) : ∀ k, (rdG p n k).length = n
 | 0 => List.length_replicate
 | k + 1 => by rw [rdG, swG_len, rdG_len p n k]
theorem set_getD (g : List Bool) (x y : Nat) : (g.set x true).getD y false = (g.getD y false || (decide (y = x) && decide (x < g.length))) := by
 rw [List.getD_eq_getElem?_getD, List.getD_eq_getElem?_getD, List.getElem?_set]
 by_cases h : x = y
 · subst h
   rw [if_pos rfl, decide_eq_true rfl, Bool.true_and]
   by_cases h2 : x < g.length
   · rw [if_pos h2, decide_eq_true h2, Bool.or_true]; rfl
   · rw [if_neg h2, decide_eq_false h2, Bool.or_false, List.getElem?_eq_none (by omega)]
 · rw [if_neg h, decide_eq_false (fun e => h e.symm), Bool.false_and, Bool.or_false]
theorem swG_stuck {n : Nat} {p : List Edg} {T : Nat → Prop} (ht : stuck n p T) {g : List Bool} (hg : ∀ x, T x → g.getD x false = false) : ∀ i x, T x → (swG p g i).getD x false = false
 | 0, x, hx => hg x hx
 | i + 1, x, hx => by
   have ih := swG_stuck ht hg i
   rw [swG]
   split
   · rename_i hf
     rw [set_getD, ih x hx, Bool.false_or, Bool.and_eq_false_iff]
     left
     rw [decide_eq_false_iff_not]
     rintro rfl
     obtain ⟨_, z, hz, hp⟩ := ht.2 x hx
     unfold isPr at hp
     rw [List.any_eq_true] at hp
     obtain ⟨e, he, h2⟩ := hp
     simp only [Bool.and_eq_true, decide_eq_true_eq] at h2
     unfold freeG at hf
     have h3 := List.all_eq_true.1 hf e he
     rw [h2.1, h2.2, Int.toNat_natCast, ih z hz] at h3
     simp at h3
   · exact ih x hx
theorem rdG_stuck {n : Nat} {p : List Edg} {T : Nat → Prop} (ht : stuck n p T) : ∀ k x, T x → (rdG p n k).getD x false = false
 | 0, x, _ => by
   rw [rdG, List.getD_eq_getElem?_getD, List.getElem?_replicate]
   split <;> rfl
 | k + 1, x, hx => swG_stuck ht (rdG_stuck ht k) n x hx
def cntG (g : List Bool) : Nat := g.countP fun b => b
theorem cntG_set (g : List Bool) : ∀ x, x < g.length → cntG (g.set x true) = cntG g + (if g.getD x false = true then 0 else 1) := by
 induction g with
 | nil => intro x h; simp at h
 | cons b g ih =>
   intro x h
   unfold cntG at ih ⊢
   cases x with
   | zero =>
     rw [List.set_cons_zero, List.countP_cons, List.countP_cons, List.getD_cons_zero]
     cases b <;> simp
   | succ x =>
     rw [List.set_cons_succ, List.countP_cons, List.countP_cons, List.getD_cons_succ, ih x (by simpa using h)]
     omega
theorem cntG_sw (p : List Edg) (g : List Bool) : ∀ i, i ≤ g.length → cntG g ≤ cntG (swG p g i) ∧ (cntG (swG p g i) = cntG g → swG p g i = g)
 | 0, _ => ⟨Nat.le_refl _, fun _ => rfl⟩
 | i + 1, h => by
   have ih := cntG_sw p g i (by omega)
   rw [swG]
   split
   · have hc := cntG_set (swG p g i) i (by rw [swG_len]; omega)
     rw [hc]
     refine ⟨by omega, fun e => ?_⟩
     by_cases hb : (swG p g i).getD i false = true
     · rw [if_pos hb] at e
       have e2 := ih.2 (by omega)
       rw [e2] at hb ⊢
       rw [List.getD_eq_getElem?_getD, List.getElem?_eq_getElem (by omega)] at hb
       have hb : g[i] = true := hb
       rw [← hb, List.set_getElem_self]
     · rw [if_neg hb] at e
       have := ih.1
       omega
   · exact ih
theorem cntG_le (g : List Bool) : cntG g ≤ g.length := List.countP_le_length
theorem cntG_full {g : List Bool} (h : cntG g = g.length) : ∀ x, x < g.length → g.getD x false = true := by
 intro x hx
 unfold cntG at h
 rw [List.getD_eq_getElem?_getD, List.getElem?_eq_getElem hx]
 exact List.countP_eq_length.1 h g[x] (List.getElem_mem hx)
theorem rd_cnt (p : List Edg) (n : Nat) : ∀ k, k ≤ cntG (rdG p n k) ∨ swG p (rdG p n k) n = rdG p n k
 | 0 => .inl (Nat.zero_le _)
 | k + 1 => by
   have hl := rdG_len p n k
   rcases rd_cnt p n k with h | h
   · have hc := cntG_sw p (rdG p n k) n (by omega)
     by_cases e : cntG (swG p (rdG p n k) n) = cntG (rdG p n k)
     · right
       have e2 := hc.2 e
       rw [rdG, e2]
       exact e2
     · left
       rw [rdG]
       omega
   · right
     rw [rdG, h]
     exact h
theorem sw_fix {p : List Edg} {g : List Bool} {n : Nat} (hn : g.length = n) (h : swG p g n = g) : ∀ i, i ≤ n → swG p g i = g := by
 intro i hi
 have h1 := (cntG_sw p g i (by omega)).1
 have hm : ∀ k, i ≤ k → k ≤ n → cntG (swG p g i) ≤ cntG (swG p g k) := by
   intro k
   induction k with
   | zero => intro a b; rw [Nat.le_zero.1 a]; exact Nat.le_refl _
   | succ k ih =>
     intro a b
     by_cases e : i = k + 1
     · subst e; exact Nat.le_refl _
     · have := ih (by omega) (by omega)
       rw [swG]
       split
       · rw [cntG_set _ _ (by rw [swG_len]; omega)]; omega
       · exact this
 have h2 := hm n hi (Nat.le_refl _)
 rw [h] at h2
 exact (cntG_sw p g i (by omega)).2 (by omega)
def allG (p : List Edg) (n : Nat) : Bool := (rdG p n n).all fun b => b
theorem allG_iff {n : Nat} {p : List Edg} (h : okP n p) : allG p n = false ↔ ∃ T, stuck n p T := by
 have hlen := rdG_len p n n
 unfold allG
 constructor
 · intro hf
   rcases rd_cnt p n n with hc | hc
   · have := cntG_le (rdG p n n)
     have hfull := cntG_full (g := rdG p n n) (by omega)
     exfalso
     have : ((rdG p n n).all fun b => b) = true := List.all_eq_true.2 fun b hb => by
       obtain ⟨i, hi, rfl⟩ := List.getElem_of_mem hb
       have := hfull i hi
       rwa [List.getD_eq_getElem?_getD, List.getElem?_eq_getElem hi] at this
     rw [this] at hf
     exact absurd hf (by simp)
   · have hfix := sw_fix hlen hc
     refine ⟨fun x => x < n ∧ (rdG p n n).getD x false = false, ?_, fun y hy => ⟨hy.1, ?_⟩⟩
     · apply Classical.byContradiction
       intro hno
       have : ((rdG p n n).all fun b => b) = true := List.all_eq_true.2 fun b hb => by
         obtain ⟨i, hi, rfl⟩ := List.getElem_of_mem hb
         cases hb2 : (rdG p n n)[i] with
         | true => rfl
         | false => exact absurd ⟨i, by omega, by rw [List.getD_eq_getElem?_getD, List.getElem?_eq_getElem hi, hb2]; rfl⟩ hno
       rw [this] at hf
       exact absurd hf (by simp)
     · have h1 := hfix (y + 1) (by omega)
       rw [swG, hfix y (by omega)] at h1
       have hnf : ¬ freeG p (rdG p n n) y = true := by
         intro hfr
         rw [if_pos hfr] at h1
         have := set_getD (rdG p n n) y y
         rw [h1, hy.2, decide_eq_true rfl, decide_eq_true (by omega)] at this
         exact absurd this (by simp)
       have hnf : freeG p (rdG p n n) y = false := by simpa using hnf
       unfold freeG at hnf
       rw [List.all_eq_false] at hnf
       obtain ⟨e, he, h2⟩ := hnf
       have h3 := h e he
       simp only [Bool.or_eq_true, Bool.not_eq_true', decide_eq_false_iff_not, not_or, Bool.not_eq_true, Decidable.not_not] at h2
       refine ⟨e.a.toNat, ⟨by omega, h2.2⟩, ?_⟩
       unfold isPr
       rw [List.any_eq_true]
       refine ⟨e, he, ?_⟩
       simp only [Bool.and_eq_true, decide_eq_true_eq]
       exact ⟨by omega, h2.1⟩
 · rintro ⟨T, ht⟩
   obtain ⟨x, hx⟩ := ht.1
   have h1 := (ht.2 x hx).1
   rw [List.all_eq_false]
   refine ⟨(rdG p n n)[x]'(by omega), List.getElem_mem _, ?_⟩
   have := rdG_stuck ht n x hx
   rw [List.getD_eq_getElem?_getD, List.getElem?_eq_getElem (by omega : x < (rdG p n n).length)] at this
   have this : (rdG p n n)[x]'(by omega) = false := this
   rw [this]
   simp
theorem acy_all {n : Nat} {p : List Edg} (h : okP n p) (hn : n ≤ 64) : decide (acyP (wrs n p) (2 ^ n - 1) = 0) = allG p n := by
 rw [Bool.eq_iff_iff, decide_eq_true_eq]
 constructor
 · intro e
   cases ha : allG p n with
   | true => rfl
   | false =>
     obtain ⟨T, ht⟩ := (allG_iff h).1 ha
     exact absurd e (acyP_stuck h hn ht _ fun x hx => by rw [Nat.testBit_two_pow_sub_one]; exact decide_eq_true (ht.2 x hx).1)
 · intro ha
   apply Classical.byContradiction
   intro hne
   have := (allG_iff h).2 (acyP_ne h hn _ (fun x hx => by rw [Nat.testBit_two_pow_sub_one] at hx; exact of_decide_eq_true hx) hne)
   rw [ha] at this
   exact absurd this (by simp)
def prfOk (n : Int) (l p : List Edg) : Bool := validE n l && (prE n.toNat l p && allG p n.toNat)
end Ab
/- Chapter 28: preferences in the program. -/
open Go Go.Proofs Go.RowKit
namespace Ab
theorem ndn_eq {a b : Nat} (ha : a < 18446744073709551616) (hb : b < 18446744073709551616) : ndn a b = andNot a b := by
 apply Nat.eq_of_testBit_eq
 intro i
 rw [andNot_test]
 exact wo_test ha hb i
theorem andNot_lt {a : Nat} (b : Nat) (ha : a < 18446744073709551616) : andNot a b < 18446744073709551616 := by
 have e : andNot a b &&& a = andNot a b := by
   apply Nat.eq_of_testBit_eq
   intro i
   rw [Nat.testBit_and, andNot_test]
   cases a.testBit i <;> cases b.testBit i <;> rfl
 rw [← e]
 exact Nat.lt_of_le_of_lt Nat.and_le_right ha
theorem bAn {a b : Nat} (ha : a < 18446744073709551616) (hb : b < 18446744073709551616) : IntKind.u64.wrap ((BitVec.ofInt IntKind.u64.bits (a : Int) &&& ~~~ BitVec.ofInt IntKind.u64.bits (b : Int)).toNat : Int) = ((andNot a b : Nat) : Int) := by
 rw [← ndn_eq ha hb]
 exact bNdn a b ha hb
theorem pow14p {n : Nat} (hn : n ≤ 14) : 2 ^ n ≤ 16384 := Nat.pow_le_pow_right (by omega) hn
theorem firstN_a {n : Nat} (hn : n ≤ 14) : AC Tryz.prog 133 [.d (.v (.int .i64 (n : Int)))] (.d (.v (.int .u64 (2 ^ n - 1 : Nat)))) := by
 have h1 := pow14p hn
 have h2 : 0 < 2 ^ n := Nat.two_pow_pos n
 have h0 : ((n : Int) < 0) = False := eq_false (by omega)
 have e1 : IntKind.u64.wrap ((1 : Int) * 2 ^ min n IntKind.u64.bits) = ((2 ^ n : Nat) : Int) := bShl n (by omega)
 have e2 : IntKind.u64.wrap (((2 ^ n : Nat) : Int) - 1) = ((2 ^ n - 1 : Nat) : Int) := by rw [IntKind.wrap_u64]; omega
 refine AC.intro Tryz.func133 rfl (by decide) (by simp [S.res, S.ress]) (by simp [S.os, S.oss]) (by simp [S.wfs, S.wf, dbS]) (by simp [Tryz.f133]) ?_; rw [Tryz.ntmps133]
 repeat (first | refine aq ?_ | refine ap (by rfl : apartB 0 _ _ = true) ?_ | refine ak ?_ | refine ab ?_ | refine al ?_ | ((first | refine ar ?_ | refine ad ty_mix (by kernel_rfl) ?_ | refine ac ?_ | refine ae ?_ | with_reducible refine Later.mk ?_); simp only [evD, evL, iteL, aX, St.said, St.asked, evStep, evOp, evP, St.init, St.app, srcStep, kill, setMany, loadS, fieldS, buildS, toks, Fin, upd_app, Array.isEmpty, reduceLT, reduceAdd, reduceMul, reduceLeDiff, reduceSub, reduceEqDiff, reduceCtorEq, reduceIte, ↓Opt.is, ↓Opt.no, ↓Asks.yes, ↓Asks.no, tyL, encL, h0, e1, e2, asB]))
 refine Ab.ret ?_; simp only [evD, evL, iteL, aX, St.said, St.asked, evStep, evOp, evP, St.init, St.app, srcStep, kill, setMany, loadS, fieldS, buildS, toks, Fin, upd_app, Array.isEmpty, reduceLT, reduceAdd, reduceMul, reduceLeDiff, reduceSub, reduceEqDiff, reduceCtorEq, reduceIte, ↓Opt.is, ↓Opt.no, ↓Asks.yes, ↓Asks.no, tyL, List.nodup_cons, encL, Tryz.f133]
theorem vertices_a {G : List Nat} (hn : G.length ≤ 14) : AC Tryz.prog 121 [.d (.sl (G.map encU))] (.d (.v (.int .u64 (2 ^ G.length - 1 : Nat)))) := by
 have hc := firstN_a hn
 refine AC.intro Tryz.func121 rfl (by decide) (by simp [S.res, S.ress]) (by simp [S.os, S.oss]) (by simp [S.wfs, S.wf, dbS]) (by simp [Tryz.f121]) ?_; rw [Tryz.ntmps121]
 repeat (first | refine aq ?_ | refine ap (by rfl : apartB 0 _ _ = true) ?_ | refine ak ?_ | refine ab ?_ | refine al ?_ | ((first | refine ar ?_ | refine ad ty_mix (by kernel_rfl) ?_ | refine ac ?_ | refine ae ?_ | with_reducible refine Later.mk ?_); simp only [evD, evL, iteL, aX, St.said, St.asked, evStep, evOp, evP, St.init, St.app, srcStep, kill, setMany, loadS, fieldS, buildS, toks, Fin, upd_app, Array.isEmpty, reduceLT, reduceAdd, reduceMul, reduceLeDiff, reduceSub, reduceEqDiff, reduceCtorEq, reduceIte, ↓Opt.is, ↓Opt.no, ↓Asks.yes, ↓Asks.no, tyL, encL, List.length_map, asB]))
 refine ⟨_, hc, ?_⟩; (repeat (first | refine ap (by rfl : apartB 0 _ _ = true) ?_ | refine ap (by simp [osL, D.flat]) ?_)); repeat (first | refine aq ?_ | refine ap (by rfl : apartB 0 _ _ = true) ?_ | refine ak ?_ | refine ab ?_ | refine al ?_ | ((first | refine ar ?_ | refine ad ty_mix (by kernel_rfl) ?_ | refine ac ?_ | refine ae ?_ | with_reducible refine Later.mk ?_); simp only [evD, evL, iteL, aX, St.said, St.asked, evStep, evOp, evP, St.init, St.app, srcStep, kill, setMany, loadS, fieldS, buildS, toks, Fin, upd_app, Array.isEmpty, reduceLT, reduceAdd, reduceMul, reduceLeDiff, reduceSub, reduceEqDiff, reduceCtorEq, reduceIte, ↓Opt.is, ↓Opt.no, ↓Asks.yes, ↓Asks.no, tyL, encL, asB]))
 refine Ab.ret ?_; simp only [evD, evL, iteL, aX, St.said, St.asked, evStep, evOp, evP, St.init, St.app, srcStep, kill, setMany, loadS, fieldS, buildS, toks, Fin, upd_app, Array.isEmpty, reduceLT, reduceAdd, reduceMul, reduceLeDiff, reduceSub, reduceEqDiff, reduceCtorEq, reduceIte, ↓Opt.is, ↓Opt.no, ↓Asks.yes, ↓Asks.no, tyL, List.nodup_cons, encL, Tryz.f121]
theorem hasEdge_a {n : Nat} {l : List Edg} (hn : n ≤ 64) (ho : okN n l) (a b : Int) : AC Tryz.prog 118 [.d (.sl ((grf n l).map encU)), .d (.v (.int .i64 a)), .d (.v (.int .i64 b))] (.d (.v (.bool (hasPE n l a b)))) := by
 have hc1 := isIndex_a a n
 have hc2 := isIndex_a b n
 have hlen := grf_len n l
 unfold hasPE
 rcases Bool.eq_false_or_eq_true (decide (0 ≤ a) && decide (a < (n : Int))) with h1 | h1
 · rcases Bool.eq_false_or_eq_true (decide (0 ≤ b) && decide (b < (n : Int))) with h2 | h2
   · have h3 := h1
     have h4 := h2
     rw [Bool.and_eq_true, decide_eq_true_eq, decide_eq_true_eq] at h3 h4
     obtain ⟨p, rfl⟩ : ∃ p : Nat, a = (p : Int) := ⟨a.toNat, by omega⟩
     obtain ⟨q, rfl⟩ : ∃ q : Nat, b = (q : Int) := ⟨b.toNat, by omega⟩
     have hg := grf_test ho p q
     have hlt := grf_lt ho hn p
     have hp : p < (grf n l).length := by omega
     rw [h1] at hc1 ⊢
     rw [h2] at hc2 ⊢
     rw [Int.toNat_natCast, Int.toNat_natCast, ← hg]
     generalize grf n l = G at *
     subst hlen
     have hc3 := bits_has_a (G.getD p 0) q hlt (by omega)
     have hgp := getG hp
     have z3 : ∀ x : Nat, (0 ≤ (x : Int)) = True := fun x => eq_true (by omega)
     have z1 : (p < G.length) = True := eq_true hp
     refine AC.intro Tryz.func118 rfl (by decide) (by simp [S.res, S.ress]) (by simp [S.os, S.oss]) (by simp [S.wfs, S.wf, dbS]) (by simp [Tryz.f118]) ?_; rw [Tryz.ntmps118]
     repeat (first | refine aq ?_ | refine ap (by rfl : apartB 0 _ _ = true) ?_ | refine ak ?_ | refine ab ?_ | refine al ?_ | ((first | refine ar ?_ | refine ad ty_mix (by kernel_rfl) ?_ | refine ac ?_ | refine ae ?_ | with_reducible refine Later.mk ?_); simp only [evD, evL, iteL, aX, St.said, St.asked, evStep, evOp, evP, St.init, St.app, srcStep, kill, setMany, loadS, fieldS, buildS, toks, Fin, upd_app, Array.isEmpty, reduceLT, reduceAdd, reduceMul, reduceLeDiff, reduceSub, reduceEqDiff, reduceCtorEq, reduceIte, ↓Opt.is, ↓Opt.no, ↓Asks.yes, ↓Asks.no, tyL, encL, List.length_map, asB]))
     refine ⟨_, hc1, ?_⟩; (repeat (first | refine ap (by rfl : apartB 0 _ _ = true) ?_ | refine ap (by simp [osL, D.flat]) ?_)); repeat (first | refine aq ?_ | refine ap (by rfl : apartB 0 _ _ = true) ?_ | refine ak ?_ | refine ab ?_ | refine al ?_ | ((first | refine ar ?_ | refine ad ty_mix (by kernel_rfl) ?_ | refine ac ?_ | refine ae ?_ | with_reducible refine Later.mk ?_); simp only [evD, evL, iteL, aX, St.said, St.asked, evStep, evOp, evP, St.init, St.app, srcStep, kill, setMany, loadS, fieldS, buildS, toks, Fin, upd_app, Array.isEmpty, reduceLT, reduceAdd, reduceMul, reduceLeDiff, reduceSub, reduceEqDiff, reduceCtorEq, reduceIte, ↓Opt.is, ↓Opt.no, ↓Asks.yes, ↓Asks.no, tyL, encL, List.length_map, asB]))
     refine ⟨_, hc2, ?_⟩; (repeat (first | refine ap (by rfl : apartB 0 _ _ = true) ?_ | refine ap (by simp [osL, D.flat]) ?_)); repeat (first | refine aq ?_ | refine ap (by rfl : apartB 0 _ _ = true) ?_ | refine ak ?_ | refine ab ?_ | refine al ?_ | ((first | refine ar ?_ | refine ad ty_mix (by kernel_rfl) ?_ | refine ac ?_ | refine ae ?_ | with_reducible refine Later.mk ?_); simp only [evD, evL, iteL, aX, St.said, St.asked, evStep, evOp, evP, St.init, St.app, srcStep, kill, setMany, loadS, fieldS, buildS, toks, Fin, upd_app, Array.isEmpty, reduceLT, reduceAdd, reduceMul, reduceLeDiff, reduceSub, reduceEqDiff, reduceCtorEq, reduceIte, ↓Opt.is, ↓Opt.no, ↓Asks.yes, ↓Asks.no, tyL, encL, List.length_map, hgp, z1, z3, Int.toNat_natCast, if_true, asB]))
     refine ⟨_, hc3, ?_⟩; (repeat (first | refine ap (by rfl : apartB 0 _ _ = true) ?_ | refine ap (by simp [osL, D.flat]) ?_)); repeat (first | refine aq ?_ | refine ap (by rfl : apartB 0 _ _ = true) ?_ | refine ak ?_ | refine ab ?_ | refine al ?_ | ((first | refine ar ?_ | refine ad ty_mix (by kernel_rfl) ?_ | refine ac ?_ | refine ae ?_ | with_reducible refine Later.mk ?_); simp only [evD, evL, iteL, aX, St.said, St.asked, evStep, evOp, evP, St.init, St.app, srcStep, kill, setMany, loadS, fieldS, buildS, toks, Fin, upd_app, Array.isEmpty, reduceLT, reduceAdd, reduceMul, reduceLeDiff, reduceSub, reduceEqDiff, reduceCtorEq, reduceIte, ↓Opt.is, ↓Opt.no, ↓Asks.yes, ↓Asks.no, tyL, encL, asB]))
     refine Ab.ret ?_; simp only [evD, evL, iteL, aX, St.said, St.asked, evStep, evOp, evP, St.init, St.app, srcStep, kill, setMany, loadS, fieldS, buildS, toks, Fin, upd_app, Array.isEmpty, reduceLT, reduceAdd, reduceMul, reduceLeDiff, reduceSub, reduceEqDiff, reduceCtorEq, reduceIte, ↓Opt.is, ↓Opt.no, ↓Asks.yes, ↓Asks.no, tyL, List.nodup_cons, encL, Tryz.f118]
   · rw [h1] at hc1 ⊢
     rw [h2] at hc2 ⊢
     generalize grf n l = G at *
     subst hlen
     refine AC.intro Tryz.func118 rfl (by decide) (by simp [S.res, S.ress]) (by simp [S.os, S.oss]) (by simp [S.wfs, S.wf, dbS]) (by simp [Tryz.f118]) ?_; rw [Tryz.ntmps118]
     repeat (first | refine aq ?_ | refine ap (by rfl : apartB 0 _ _ = true) ?_ | refine ak ?_ | refine ab ?_ | refine al ?_ | ((first | refine ar ?_ | refine ad ty_mix (by kernel_rfl) ?_ | refine ac ?_ | refine ae ?_ | with_reducible refine Later.mk ?_); simp only [evD, evL, iteL, aX, St.said, St.asked, evStep, evOp, evP, St.init, St.app, srcStep, kill, setMany, loadS, fieldS, buildS, toks, Fin, upd_app, Array.isEmpty, reduceLT, reduceAdd, reduceMul, reduceLeDiff, reduceSub, reduceEqDiff, reduceCtorEq, reduceIte, ↓Opt.is, ↓Opt.no, ↓Asks.yes, ↓Asks.no, tyL, encL, List.length_map, asB]))
     refine ⟨_, hc1, ?_⟩; (repeat (first | refine ap (by rfl : apartB 0 _ _ = true) ?_ | refine ap (by simp [osL, D.flat]) ?_)); repeat (first | refine aq ?_ | refine ap (by rfl : apartB 0 _ _ = true) ?_ | refine ak ?_ | refine ab ?_ | refine al ?_ | ((first | refine ar ?_ | refine ad ty_mix (by kernel_rfl) ?_ | refine ac ?_ | refine ae ?_ | with_reducible refine Later.mk ?_); simp only [evD, evL, iteL, aX, St.said, St.asked, evStep, evOp, evP, St.init, St.app, srcStep, kill, setMany, loadS, fieldS, buildS, toks, Fin, upd_app, Array.isEmpty, reduceLT, reduceAdd, reduceMul, reduceLeDiff, reduceSub, reduceEqDiff, reduceCtorEq, reduceIte, ↓Opt.is, ↓Opt.no, ↓Asks.yes, ↓Asks.no, tyL, encL, List.length_map, asB]))
     refine ⟨_, hc2, ?_⟩; (repeat (first | refine ap (by rfl : apartB 0 _ _ = true) ?_ | refine ap (by simp [osL, D.flat]) ?_)); repeat (first | refine aq ?_ | refine ap (by rfl : apartB 0 _ _ = true) ?_ | refine ak ?_ | refine ab ?_ | refine al ?_ | ((first | refine ar ?_ | refine ad ty_mix (by kernel_rfl) ?_ | refine ac ?_ | refine ae ?_ | with_reducible refine Later.mk ?_); simp only [evD, evL, iteL, aX, St.said, St.asked, evStep, evOp, evP, St.init, St.app, srcStep, kill, setMany, loadS, fieldS, buildS, toks, Fin, upd_app, Array.isEmpty, reduceLT, reduceAdd, reduceMul, reduceLeDiff, reduceSub, reduceEqDiff, reduceCtorEq, reduceIte, ↓Opt.is, ↓Opt.no, ↓Asks.yes, ↓Asks.no, tyL, encL, List.length_map, asB]))
     refine Ab.ret ?_; simp only [evD, evL, iteL, aX, St.said, St.asked, evStep, evOp, evP, St.init, St.app, srcStep, kill, setMany, loadS, fieldS, buildS, toks, Fin, upd_app, Array.isEmpty, reduceLT, reduceAdd, reduceMul, reduceLeDiff, reduceSub, reduceEqDiff, reduceCtorEq, reduceIte, ↓Opt.is, ↓Opt.no, ↓Asks.yes, ↓Asks.no, tyL, List.nodup_cons, encL, Tryz.f118]
 · rw [h1] at hc1 ⊢
   generalize grf n l = G at *
   subst hlen
   refine AC.intro Tryz.func118 rfl (by decide) (by simp [S.res, S.ress]) (by simp [S.os, S.oss]) (by simp [S.wfs, S.wf, dbS]) (by simp [Tryz.f118]) ?_; rw [Tryz.ntmps118]
   repeat (first | refine aq ?_ | refine ap (by rfl : apartB 0 _ _ = true) ?_ | refine ak ?_ | refine ab ?_ | refine al ?_ | ((first | refine ar ?_ | refine ad ty_mix (by kernel_rfl) ?_ | refine ac ?_ | refine ae ?_ | with_reducible refine Later.mk ?_); simp only [evD, evL, iteL, aX, St.said, St.asked, evStep, evOp, evP, St.init, St.app, srcStep, kill, setMany, loadS, fieldS, buildS, toks, Fin, upd_app, Array.isEmpty, reduceLT, reduceAdd, reduceMul, reduceLeDiff, reduceSub, reduceEqDiff, reduceCtorEq, reduceIte, ↓Opt.is, ↓Opt.no, ↓Asks.yes, ↓Asks.no, tyL, encL, List.length_map, asB]))
   refine ⟨_, hc1, ?_⟩; (repeat (first | refine ap (by rfl : apartB 0 _ _ = true) ?_ | refine ap (by simp [osL, D.flat]) ?_)); repeat (first | refine aq ?_ | refine ap (by rfl : apartB 0 _ _ = true) ?_ | refine ak ?_ | refine ab ?_ | refine al ?_ | ((first | refine ar ?_ | refine ad ty_mix (by kernel_rfl) ?_ | refine ac ?_ | refine ae ?_ | with_reducible refine Later.mk ?_); simp only [evD, evL, iteL, aX, St.said, St.asked, evStep, evOp, evP, St.init, St.app, srcStep, kill, setMany, loadS, fieldS, buildS, toks, Fin, upd_app, Array.isEmpty, reduceLT, reduceAdd, reduceMul, reduceLeDiff, reduceSub, reduceEqDiff, reduceCtorEq, reduceIte, ↓Opt.is, ↓Opt.no, ↓Asks.yes, ↓Asks.no, tyL, encL, List.length_map, asB]))
   refine Ab.ret ?_; simp only [evD, evL, iteL, aX, St.said, St.asked, evStep, evOp, evP, St.init, St.app, srcStep, kill, setMany, loadS, fieldS, buildS, toks, Fin, upd_app, Array.isEmpty, reduceLT, reduceAdd, reduceMul, reduceLeDiff, reduceSub, reduceEqDiff, reduceCtorEq, reduceIte, ↓Opt.is, ↓Opt.no, ↓Asks.yes, ↓Asks.no, tyL, List.nodup_cons, encL, Tryz.f118]
theorem undP_snoc (W : List Nat) (B0 : Nat) (l : List Int) {i : Nat} (h : i < l.length) : undP W B0 (l.take (i + 1)).reverse = andNot (undP W B0 (l.take i).reverse) (W.getD l[i].toNat 0) := by
 rw [List.take_succ_eq_append_getElem h, List.reverse_append]
 rfl
theorem undP_lt (W : List Nat) {B0 : Nat} (h : B0 < 18446744073709551616) : ∀ l : List Int, undP W B0 l < 18446744073709551616
 | [] => h
 | v :: l => andNot_lt _ (undP_lt W h l)
theorem undominated_a {n : Nat} {p : List Edg} {B0 : Nat} (hn : n ≤ 64) (hp : okP n p) (hS : B0 < 18446744073709551616) (hin : ∀ x, B0.testBit x = true → x < n) (gr : List Nat) : AC Tryz.prog 130 [.a [.d (.sl (gr.map encU)), .d (.sl ((wrs n p).map encU))], .d (.v (.int .u64 (B0 : Int)))] (.d (.v (.int .u64 (undS (wrs n p) B0 : Int)))) := by
 have hc := elements_a B0 hS
 have hlen := wrs_len n p
 have hlt := wrs_lt hp hn
 have hel := fun x => elems_mem (n := 64) (b := B0) (x := x)
 have hll := elems_len 64 B0
 unfold undS
 generalize wrs n p = W at *
 refine AC.intro Tryz.func130 rfl (by decide) (by simp [S.res, S.ress]) (by simp [S.os, S.oss]) (by simp [S.wfs, S.wf, dbS]) (by simp [Tryz.f130]) ?_; rw [Tryz.ntmps130]
 repeat (first | refine aq ?_ | refine ap (by rfl : apartB 0 _ _ = true) ?_ | refine ak ?_ | refine ab ?_ | refine al ?_ | ((first | refine ar ?_ | refine ad ty_mix (by kernel_rfl) ?_ | refine ac ?_ | refine ae ?_ | with_reducible refine Later.mk ?_); simp only [evD, evL, iteL, aX, St.said, St.asked, evStep, evOp, evP, St.init, St.app, srcStep, kill, setMany, loadS, fieldS, buildS, toks, Fin, upd_app, Array.isEmpty, reduceLT, reduceAdd, reduceMul, reduceLeDiff, reduceSub, reduceEqDiff, reduceCtorEq, reduceIte, ↓Opt.is, ↓Opt.no, ↓Asks.yes, ↓Asks.no, tyL, encL, asB]))
 refine ⟨_, hc, ?_⟩; (repeat (first | refine ap (by rfl : apartB 0 _ _ = true) ?_ | refine ap (by simp [osL, D.flat]) ?_)); repeat (first | refine aq ?_ | refine ap (by rfl : apartB 0 _ _ = true) ?_ | refine ak ?_ | refine ab ?_ | refine al ?_ | ((first | refine ar ?_ | refine ad ty_mix (by kernel_rfl) ?_ | refine ac ?_ | refine ae ?_ | with_reducible refine Later.mk ?_); simp only [evD, evL, iteL, aX, St.said, St.asked, evStep, evOp, evP, St.init, St.app, srcStep, kill, setMany, loadS, fieldS, buildS, toks, Fin, upd_app, Array.isEmpty, reduceLT, reduceAdd, reduceMul, reduceLeDiff, reduceSub, reduceEqDiff, reduceCtorEq, reduceIte, ↓Opt.is, ↓Opt.no, ↓Asks.yes, ↓Asks.no, tyL, encL, asB]))
 generalize elemsN 64 B0 = E at *
 refine Ab.loopI E.length (fun _ => True) (fun i => mkS 25 [(2, .p 0 0), (5, .d (.v (.int .u64 (undP W B0 (E.take i).reverse : Int)))), (10, .o 80 (.sl (List.map encI E))), (11, .d (.v (.int .i64 (E.length : Int)))), (12, .d (.v (.int .i64 (i : Int))))] [(0, .box [.d (.sl (List.map encU gr)), .d (.sl (List.map encU W))]), (80, .tok (.sl (List.map encI E)))] 128) trivial ?_ ?_
 · ((first | refine Le.mk rfl ?_ ?_ | refine LeTo.mk rfl ?_ ?_) <;> simp only [evD, evL, iteL, aX, St.said, St.asked, evStep, evOp, evP, St.init, St.app, srcStep, kill, setMany, loadS, fieldS, buildS, toks, Fin, upd_app, Array.isEmpty, reduceLT, reduceAdd, reduceMul, reduceLeDiff, reduceSub, reduceEqDiff, reduceCtorEq, reduceIte, ↓Opt.is, ↓Opt.no, ↓Asks.yes, ↓Asks.no, tyL, encL, leL, leD, ne_eq, List.take_zero, List.reverse_nil, undP])
 intro i hi _
 repeat (first | refine aq ?_ | refine ap (by rfl : apartB 0 _ _ = true) ?_ | refine ak ?_ | refine ab ?_ | refine al ?_ | ((first | refine ar ?_ | refine ad ty_mix (by kernel_rfl) ?_ | refine ac ?_ | refine ae ?_ | with_reducible refine Later.mk ?_); simp only [evD, evL, iteL, aX, St.said, St.asked, evStep, evOp, evP, St.init, St.app, srcStep, kill, setMany, loadS, fieldS, buildS, toks, Fin, upd_app, Array.isEmpty, reduceLT, reduceAdd, reduceMul, reduceLeDiff, reduceSub, reduceEqDiff, reduceCtorEq, reduceIte, ↓Opt.is, ↓Opt.no, ↓Asks.yes, ↓Asks.no, tyL, encL, mkS, updl, asB]))
 refine ⟨fun h => ?_, fun h => ?_⟩
 · have h : i < E.length := by simpa using h
   have hw := wrapN h (by omega)
   have hst := undP_snoc W B0 E h
   have hult := undP_lt W hS (E.take i).reverse
   obtain ⟨q, h1, h2, h3⟩ := (hel E[i]).1 (List.getElem_mem h)
   have hqn := hin q h2
   generalize undP W B0 (E.take i).reverse = U at *
   rw [h3, Int.toNat_natCast] at hst
   have e1 := bAn hult (hlt q)
   have hgq := getG (G := W) (i := q) (by omega)
   have z3 : ∀ x : Nat, (0 ≤ (x : Int)) = True := fun x => eq_true (by omega)
   have z1 : (q < W.length) = True := eq_true (by omega)
   repeat (first | refine aq ?_ | refine ap (by rfl : apartB 0 _ _ = true) ?_ | refine ak ?_ | refine ab ?_ | refine al ?_ | ((first | refine ar ?_ | refine ad ty_mix (by kernel_rfl) ?_ | refine ac ?_ | refine ae ?_ | with_reducible refine Later.mk ?_); simp only [evD, evL, iteL, aX, St.said, St.asked, evStep, evOp, evP, St.init, St.app, srcStep, kill, setMany, loadS, fieldS, buildS, toks, Fin, upd_app, Array.isEmpty, reduceLT, reduceAdd, reduceMul, reduceLeDiff, reduceSub, reduceEqDiff, reduceCtorEq, reduceIte, ↓Opt.is, ↓Opt.no, ↓Asks.yes, ↓Asks.no, tyL, encL, getI h, h3, hgq, z1, z3, Int.toNat_natCast, if_true, List.length_map, e1, hw, asB]))
   refine ⟨h, ?_⟩
   ((first | refine Le.mk rfl ?_ ?_ | refine LeTo.mk rfl ?_ ?_) <;> simp only [evD, evL, iteL, aX, St.said, St.asked, evStep, evOp, evP, St.init, St.app, srcStep, kill, setMany, loadS, fieldS, buildS, toks, Fin, upd_app, Array.isEmpty, reduceLT, reduceAdd, reduceMul, reduceLeDiff, reduceSub, reduceEqDiff, reduceCtorEq, reduceIte, ↓Opt.is, ↓Opt.no, ↓Asks.yes, ↓Asks.no, tyL, encL, leL, leD, ne_eq, hst])
 · have h : i = E.length := by have := of_decide_eq_false h; omega
   subst h
   repeat (first | refine aq ?_ | refine ap (by rfl : apartB 0 _ _ = true) ?_ | refine ak ?_ | refine ab ?_ | refine al ?_ | ((first | refine ar ?_ | refine ad ty_mix (by kernel_rfl) ?_ | refine ac ?_ | refine ae ?_ | with_reducible refine Later.mk ?_); simp only [evD, evL, iteL, aX, St.said, St.asked, evStep, evOp, evP, St.init, St.app, srcStep, kill, setMany, loadS, fieldS, buildS, toks, Fin, upd_app, Array.isEmpty, reduceLT, reduceAdd, reduceMul, reduceLeDiff, reduceSub, reduceEqDiff, reduceCtorEq, reduceIte, ↓Opt.is, ↓Opt.no, ↓Asks.yes, ↓Asks.no, tyL, encL, asB]))
   refine Ab.ret ?_; simp only [evD, evL, iteL, aX, St.said, St.asked, evStep, evOp, evP, St.init, St.app, srcStep, kill, setMany, loadS, fieldS, buildS, toks, Fin, upd_app, Array.isEmpty, reduceLT, reduceAdd, reduceMul, reduceLeDiff, reduceSub, reduceEqDiff, reduceCtorEq, reduceIte, ↓Opt.is, ↓Opt.no, ↓Asks.yes, ↓Asks.no, tyL, List.nodup_cons, encL, Tryz.f130, List.take_length]
theorem isAcyclic_a {n : Nat} {p : List Edg} (hn : n ≤ 14) (hp : okP n p) {gr : List Nat} (hgr : gr.length = n) : AC Tryz.prog 119 [.a [.d (.sl (gr.map encU)), .d (.sl ((wrs n p).map encU))]] (.d (.v (.bool (decide (acyP (wrs n p) (2 ^ n - 1) = 0))))) := by
 subst hgr
 have hc := vertices_a hn
 refine AC.intro Tryz.func119 rfl (by decide) (by simp [S.res, S.ress]) (by simp [S.os, S.oss]) (by simp [S.wfs, S.wf, dbS]) (by simp [Tryz.f119]) ?_; rw [Tryz.ntmps119]
 repeat (first | refine aq ?_ | refine ap (by rfl : apartB 0 _ _ = true) ?_ | refine ak ?_ | refine ab ?_ | refine al ?_ | ((first | refine ar ?_ | refine ad ty_mix (by kernel_rfl) ?_ | refine ac ?_ | refine ae ?_ | with_reducible refine Later.mk ?_); simp only [evD, evL, iteL, aX, St.said, St.asked, evStep, evOp, evP, St.init, St.app, srcStep, kill, setMany, loadS, fieldS, buildS, toks, Fin, upd_app, Array.isEmpty, reduceLT, reduceAdd, reduceMul, reduceLeDiff, reduceSub, reduceEqDiff, reduceCtorEq, reduceIte, ↓Opt.is, ↓Opt.no, ↓Asks.yes, ↓Asks.no, tyL, encL, asB]))
 refine ⟨_, hc, ?_⟩; (repeat (first | refine ap (by rfl : apartB 0 _ _ = true) ?_ | refine ap (by simp [osL, D.flat]) ?_)); repeat (first | refine aq ?_ | refine ap (by rfl : apartB 0 _ _ = true) ?_ | refine ak ?_ | refine ab ?_ | refine al ?_ | ((first | refine ar ?_ | refine ad ty_mix (by kernel_rfl) ?_ | refine ac ?_ | refine ae ?_ | with_reducible refine Later.mk ?_); simp only [evD, evL, iteL, aX, St.said, St.asked, evStep, evOp, evP, St.init, St.app, srcStep, kill, setMany, loadS, fieldS, buildS, toks, Fin, upd_app, Array.isEmpty, reduceLT, reduceAdd, reduceMul, reduceLeDiff, reduceSub, reduceEqDiff, reduceCtorEq, reduceIte, ↓Opt.is, ↓Opt.no, ↓Asks.yes, ↓Asks.no, tyL, encL, asB]))
 have hlen := wrs_len gr.length p
 have h14 := pow14p hn
 refine Ab.loopG (2 ^ gr.length - 1) (fun x => x) (fun x => x < 18446744073709551616 ∧ (∀ y, x.testBit y = true → y < gr.length) ∧ acyP (wrs gr.length p) x = acyP (wrs gr.length p) (2 ^ gr.length - 1)) (fun x => mkS 18 [(1, .p 0 0), (3, .d (.v (.int .u64 (x : Int))))] [(0, .box [.d (.sl (List.map encU gr)), .d (.sl (List.map encU (wrs gr.length p)))])] 96) ⟨by omega, fun y hy => by rw [Nat.testBit_two_pow_sub_one] at hy; exact of_decide_eq_true hy, rfl⟩ ?_ ?_
 · ((first | refine Le.mk rfl ?_ ?_ | refine LeTo.mk rfl ?_ ?_) <;> simp only [evD, evL, iteL, aX, St.said, St.asked, evStep, evOp, evP, St.init, St.app, srcStep, kill, setMany, loadS, fieldS, buildS, toks, Fin, upd_app, Array.isEmpty, reduceLT, reduceAdd, reduceMul, reduceLeDiff, reduceSub, reduceEqDiff, reduceCtorEq, reduceIte, ↓Opt.is, ↓Opt.no, ↓Asks.yes, ↓Asks.no, tyL, encL, leL, leD, ne_eq])
 intro x ⟨hx, hin, hac⟩
 have hc2 := undominated_a (n := gr.length) (p := p) (by omega) hp hx hin gr
 have hult : undS (wrs gr.length p) x < 18446744073709551616 := undP_lt _ hx _
 have e1 := bAn hx hult
 have e2 := ne0N (undS (wrs gr.length p) x)
 have e3 := eq0N x
 rcases Decidable.em (undS (wrs gr.length p) x = 0) with hu | hu
 · have hac2 : x = acyP (wrs gr.length p) (2 ^ gr.length - 1) := by rw [← hac, acyP, dif_pos hu]
   rw [hu, decide_eq_false (by simp)] at e2
   rw [hu] at hc2
   repeat (first | refine aq ?_ | refine ap (by rfl : apartB 0 _ _ = true) ?_ | refine ak ?_ | refine ab ?_ | refine al ?_ | ((first | refine ar ?_ | refine ad ty_mix (by kernel_rfl) ?_ | refine ac ?_ | refine ae ?_ | with_reducible refine Later.mk ?_); simp only [evD, evL, iteL, aX, St.said, St.asked, evStep, evOp, evP, St.init, St.app, srcStep, kill, setMany, loadS, fieldS, buildS, toks, Fin, upd_app, Array.isEmpty, reduceLT, reduceAdd, reduceMul, reduceLeDiff, reduceSub, reduceEqDiff, reduceCtorEq, reduceIte, ↓Opt.is, ↓Opt.no, ↓Asks.yes, ↓Asks.no, tyL, encL, mkS, updl, asB]))
   refine ⟨_, hc2, ?_⟩; (repeat (first | refine ap (by rfl : apartB 0 _ _ = true) ?_ | refine ap (by simp [osL, D.flat]) ?_)); repeat (first | refine aq ?_ | refine ap (by rfl : apartB 0 _ _ = true) ?_ | refine ak ?_ | refine ab ?_ | refine al ?_ | ((first | refine ar ?_ | refine ad ty_mix (by kernel_rfl) ?_ | refine ac ?_ | refine ae ?_ | with_reducible refine Later.mk ?_); simp only [evD, evL, iteL, aX, St.said, St.asked, evStep, evOp, evP, St.init, St.app, srcStep, kill, setMany, loadS, fieldS, buildS, toks, Fin, upd_app, Array.isEmpty, reduceLT, reduceAdd, reduceMul, reduceLeDiff, reduceSub, reduceEqDiff, reduceCtorEq, reduceIte, ↓Opt.is, ↓Opt.no, ↓Asks.yes, ↓Asks.no, tyL, encL, e2, asB]))
   repeat (first | refine aq ?_ | refine ap (by rfl : apartB 0 _ _ = true) ?_ | refine ak ?_ | refine ab ?_ | refine al ?_ | ((first | refine ar ?_ | refine ad ty_mix (by kernel_rfl) ?_ | refine ac ?_ | refine ae ?_ | with_reducible refine Later.mk ?_); simp only [evD, evL, iteL, aX, St.said, St.asked, evStep, evOp, evP, St.init, St.app, srcStep, kill, setMany, loadS, fieldS, buildS, toks, Fin, upd_app, Array.isEmpty, reduceLT, reduceAdd, reduceMul, reduceLeDiff, reduceSub, reduceEqDiff, reduceCtorEq, reduceIte, ↓Opt.is, ↓Opt.no, ↓Asks.yes, ↓Asks.no, tyL, encL, e3, asB]))
   refine Ab.ret ?_; simp only [evD, evL, iteL, aX, St.said, St.asked, evStep, evOp, evP, St.init, St.app, srcStep, kill, setMany, loadS, fieldS, buildS, toks, Fin, upd_app, Array.isEmpty, reduceLT, reduceAdd, reduceMul, reduceLeDiff, reduceSub, reduceEqDiff, reduceCtorEq, reduceIte, ↓Opt.is, ↓Opt.no, ↓Asks.yes, ↓Asks.no, tyL, List.nodup_cons, encL, Tryz.f119, ← hac2, e3]
 · have hac2 : acyP (wrs gr.length p) (andNot x (undS (wrs gr.length p) x)) = acyP (wrs gr.length p) (2 ^ gr.length - 1) := by rw [← hac, acyP.eq_def _ x, dif_neg hu]
   have hlt2 := andNot_und_le hu
   have hlt3 := andNot_lt (undS (wrs gr.length p) x) hx
   have hin2 : ∀ y, (andNot x (undS (wrs gr.length p) x)).testBit y = true → y < gr.length := fun y hy => by
     rw [andNot_test, Bool.and_eq_true] at hy
     exact hin y hy.1
   rw [decide_eq_true hu] at e2
   generalize undS (wrs gr.length p) x = U at *
   generalize wrs gr.length p = W at *
   repeat (first | refine aq ?_ | refine ap (by rfl : apartB 0 _ _ = true) ?_ | refine ak ?_ | refine ab ?_ | refine al ?_ | ((first | refine ar ?_ | refine ad ty_mix (by kernel_rfl) ?_ | refine ac ?_ | refine ae ?_ | with_reducible refine Later.mk ?_); simp only [evD, evL, iteL, aX, St.said, St.asked, evStep, evOp, evP, St.init, St.app, srcStep, kill, setMany, loadS, fieldS, buildS, toks, Fin, upd_app, Array.isEmpty, reduceLT, reduceAdd, reduceMul, reduceLeDiff, reduceSub, reduceEqDiff, reduceCtorEq, reduceIte, ↓Opt.is, ↓Opt.no, ↓Asks.yes, ↓Asks.no, tyL, encL, mkS, updl, asB]))
   refine ⟨_, hc2, ?_⟩; (repeat (first | refine ap (by rfl : apartB 0 _ _ = true) ?_ | refine ap (by simp [osL, D.flat]) ?_)); repeat (first | refine aq ?_ | refine ap (by rfl : apartB 0 _ _ = true) ?_ | refine ak ?_ | refine ab ?_ | refine al ?_ | ((first | refine ar ?_ | refine ad ty_mix (by kernel_rfl) ?_ | refine ac ?_ | refine ae ?_ | with_reducible refine Later.mk ?_); simp only [evD, evL, iteL, aX, St.said, St.asked, evStep, evOp, evP, St.init, St.app, srcStep, kill, setMany, loadS, fieldS, buildS, toks, Fin, upd_app, Array.isEmpty, reduceLT, reduceAdd, reduceMul, reduceLeDiff, reduceSub, reduceEqDiff, reduceCtorEq, reduceIte, ↓Opt.is, ↓Opt.no, ↓Asks.yes, ↓Asks.no, tyL, encL, e2, asB]))
   refine ⟨_, hc2, ?_⟩; (repeat (first | refine ap (by rfl : apartB 0 _ _ = true) ?_ | refine ap (by simp [osL, D.flat]) ?_)); repeat (first | refine aq ?_ | refine ap (by rfl : apartB 0 _ _ = true) ?_ | refine ak ?_ | refine ab ?_ | refine al ?_ | ((first | refine ar ?_ | refine ad ty_mix (by kernel_rfl) ?_ | refine ac ?_ | refine ae ?_ | with_reducible refine Later.mk ?_); simp only [evD, evL, iteL, aX, St.said, St.asked, evStep, evOp, evP, St.init, St.app, srcStep, kill, setMany, loadS, fieldS, buildS, toks, Fin, upd_app, Array.isEmpty, reduceLT, reduceAdd, reduceMul, reduceLeDiff, reduceSub, reduceEqDiff, reduceCtorEq, reduceIte, ↓Opt.is, ↓Opt.no, ↓Asks.yes, ↓Asks.no, tyL, encL, e1, asB]))
   refine ⟨_, hlt2, ⟨hlt3, hin2, hac2⟩, ?_⟩
   ((first | refine Le.mk rfl ?_ ?_ | refine LeTo.mk rfl ?_ ?_) <;> simp only [evD, evL, iteL, aX, St.said, St.asked, evStep, evOp, evP, St.init, St.app, srcStep, kill, setMany, loadS, fieldS, buildS, toks, Fin, upd_app, Array.isEmpty, reduceLT, reduceAdd, reduceMul, reduceLeDiff, reduceSub, reduceEqDiff, reduceCtorEq, reduceIte, ↓Opt.is, ↓Opt.no, ↓Asks.yes, ↓Asks.no, tyL, encL, leL, leD, ne_eq])
theorem validE_ok {n : Int} {l : List Edg} (h : validE n l = true) : ∃ m : Nat, n = (m : Int) ∧ m ≤ 14 ∧ okN m l := by
 have h4 := h
 unfold validE inB at h4
 simp only [Bool.and_eq_true, decide_eq_true_eq, List.all_eq_true] at h4
 refine ⟨n.toNat, by omega, by omega, fun e he => ?_⟩
 have := h4.2.1 e he
 unfold okE at this
 simp only [Bool.and_eq_true, decide_eq_true_eq] at this
 omega
def prG (n : Int) (l p : List Edg) : List Nat × List Nat := if (validE n l && prE n.toNat l p) = true then (grf n.toNat l, wrs n.toNat p) else ([], [])
theorem newPref_a {n : Int} {l p : List Edg} (gE : (eSlice eEdg).good l) (gP : (eSlice eEdg).good p) (hl : l.length ≤ 1048576) (hp : p.length ≤ 1048576) : AC Tryz.prog 97 [.d (.v (.int .i64 n)), .d (encEs l), .d (encEs p)] (.t [.a [.d (.sl ((prG n l p).1.map encU)), .d (.sl ((prG n l p).2.map encU))], .d (.v (.bool (prfOk n l p)))]) := by
 have hc1 := implAreValidEdges_a (n := n) gE
 unfold prfOk prG
 rcases Bool.eq_false_or_eq_true (validE n l) with hd | hd
 · obtain ⟨m, rfl, hm, hok⟩ := validE_ok hd
   rw [hd] at hc1 ⊢
   rw [Int.toNat_natCast, Bool.true_and, Bool.true_and]
   have hc2 := newGraph_a (n := m) (l := l) (by omega) hl hok
   refine AC.intro Tryz.func97 rfl (by decide) (by simp [S.res, S.ress]) (by simp [S.os, S.oss]) (by simp [S.wfs, S.wf, dbS]) (by simp [Tryz.f97]) ?_; rw [Tryz.ntmps97]
   repeat (first | refine aq ?_ | refine ap (by rfl : apartB 0 _ _ = true) ?_ | refine ak ?_ | refine ab ?_ | refine al ?_ | ((first | refine ar ?_ | refine ad ty_mix (by kernel_rfl) ?_ | refine ac ?_ | refine ae ?_ | with_reducible refine Later.mk ?_); simp only [evD, evL, iteL, aX, St.said, St.asked, evStep, evOp, evP, St.init, St.app, srcStep, kill, setMany, loadS, fieldS, buildS, toks, Fin, upd_app, Array.isEmpty, reduceLT, reduceAdd, reduceMul, reduceLeDiff, reduceSub, reduceEqDiff, reduceCtorEq, reduceIte, ↓Opt.is, ↓Opt.no, ↓Asks.yes, ↓Asks.no, tyL, encL, asB]))
   refine ⟨_, hc1, ?_⟩; (repeat (first | refine ap (by rfl : apartB 0 _ _ = true) ?_ | refine ap (by simp [osL, D.flat]) ?_)); repeat (first | refine aq ?_ | refine ap (by rfl : apartB 0 _ _ = true) ?_ | refine ak ?_ | refine ab ?_ | refine al ?_ | ((first | refine ar ?_ | refine ad ty_mix (by kernel_rfl) ?_ | refine ac ?_ | refine ae ?_ | with_reducible refine Later.mk ?_); simp only [evD, evL, iteL, aX, St.said, St.asked, evStep, evOp, evP, St.init, St.app, srcStep, kill, setMany, loadS, fieldS, buildS, toks, Fin, upd_app, Array.isEmpty, reduceLT, reduceAdd, reduceMul, reduceLeDiff, reduceSub, reduceEqDiff, reduceCtorEq, reduceIte, ↓Opt.is, ↓Opt.no, ↓Asks.yes, ↓Asks.no, tyL, encL, asB]))
   refine ⟨_, hc2, ?_⟩; (repeat (first | refine ap (by rfl : apartB 0 _ _ = true) ?_ | refine ap (by simp [osL, D.flat]) ?_)); repeat (first | refine aq ?_ | refine ap (by rfl : apartB 0 _ _ = true) ?_ | refine ak ?_ | refine ab ?_ | refine al ?_ | ((first | refine ar ?_ | refine ad ty_mix (by kernel_rfl) ?_ | refine ac ?_ | refine ae ?_ | with_reducible refine Later.mk ?_); simp only [evD, evL, iteL, aX, St.said, St.asked, evStep, evOp, evP, St.init, St.app, srcStep, kill, setMany, loadS, fieldS, buildS, toks, Fin, upd_app, Array.isEmpty, reduceLT, reduceAdd, reduceMul, reduceLeDiff, reduceSub, reduceEqDiff, reduceCtorEq, reduceIte, ↓Opt.is, ↓Opt.no, ↓Asks.yes, ↓Asks.no, tyL, encL, asB]))
   refine ⟨by simp [D.flat], by omega, by simp only [maxLen]; omega, ?_⟩
   repeat (first | refine aq ?_ | refine ap (by rfl : apartB 0 _ _ = true) ?_ | refine ak ?_ | refine ab ?_ | refine al ?_ | ((first | refine ar ?_ | refine ad ty_mix (by kernel_rfl) ?_ | refine ac ?_ | refine ae ?_ | with_reducible refine Later.mk ?_); simp only [evD, evL, iteL, aX, St.said, St.asked, evStep, evOp, evP, St.init, St.app, srcStep, kill, setMany, loadS, fieldS, buildS, toks, Fin, upd_app, Array.isEmpty, reduceLT, reduceAdd, reduceMul, reduceLeDiff, reduceSub, reduceEqDiff, reduceCtorEq, reduceIte, ↓Opt.is, ↓Opt.no, ↓Asks.yes, ↓Asks.no, tyL, encL, asB]))
   refine Ab.loopI p.length (fun i => prE m l (p.take i) = true) (fun i => mkS 55 [(6, .p 0 0), (8, .p 192 0), (22, .d (.sl (List.map encE p))), (23, .d (.v (.int .i64 (p.length : Int)))), (24, .d (.v (.int .i64 (i : Int))))] [(0, .box [.d (.v (.slice none 0 0)), .d (.v (.slice none 0 0))]), (128, .tok (.sl (List.map encU (grf m l)))), (160, .arr true 112 1 ((wrs m (p.take i)).map encU)), (192, .box [.o 128 (.sl (List.map encU (grf m l))), .m 160])] 224) rfl ?_ ?_
   · ((first | refine Le.mk rfl ?_ ?_ | refine LeTo.mk rfl ?_ ?_) <;> simp only [evD, evL, iteL, aX, St.said, St.asked, evStep, evOp, evP, St.init, St.app, srcStep, kill, setMany, loadS, fieldS, buildS, toks, Fin, upd_app, Array.isEmpty, reduceLT, reduceAdd, reduceMul, reduceLeDiff, reduceSub, reduceEqDiff, reduceCtorEq, reduceIte, ↓Opt.is, ↓Opt.no, ↓Asks.yes, ↓Asks.no, tyL, encL, leL, leD, ne_eq, List.take_zero, wrs, List.foldl_nil, List.map_replicate, encU])
   intro i hi hpr
   have hwl := wrs_len m (p.take i)
   have hoP := prE_ok hpr
   repeat (first | refine aq ?_ | refine ap (by rfl : apartB 0 _ _ = true) ?_ | refine ak ?_ | refine ab ?_ | refine al ?_ | ((first | refine ar ?_ | refine ad ty_mix (by kernel_rfl) ?_ | refine ac ?_ | refine ae ?_ | with_reducible refine Later.mk ?_); simp only [evD, evL, iteL, aX, St.said, St.asked, evStep, evOp, evP, St.init, St.app, srcStep, kill, setMany, loadS, fieldS, buildS, toks, Fin, upd_app, Array.isEmpty, reduceLT, reduceAdd, reduceMul, reduceLeDiff, reduceSub, reduceEqDiff, reduceCtorEq, reduceIte, ↓Opt.is, ↓Opt.no, ↓Asks.yes, ↓Asks.no, tyL, encL, mkS, updl, asB]))
   refine ⟨fun h2 => ?_, fun h2 => ?_⟩
   · have h2 : i < p.length := by simpa using h2
     have hw := wrapN h2 (by omega)
     have hc3 := hasEdge_a (n := m) (l := l) (by omega) hok p[i].a p[i].b
     have hst : wrs m (p.take (i + 1)) = addB (wrs m (p.take i)) p[i].a.toNat p[i].b.toNat := by rw [List.take_succ_eq_append_getElem h2, wrs_snoc]
     have hpr2 : prE m l (p.take (i + 1)) = (prE m l (p.take i) && hasPE m l p[i].a p[i].b) := by
       rw [List.take_succ_eq_append_getElem h2]
       unfold prE
       rw [List.all_append, List.all_cons, List.all_nil, Bool.and_true]
     have hwlt := wrs_lt hoP (by omega : m ≤ 64)
     generalize wrs m (p.take i) = W at *
     have hlen := grf_len m l
     rcases Bool.eq_false_or_eq_true (hasPE m l p[i].a p[i].b) with hh | hh
     · have hh2 := hh
       unfold hasPE at hh2
       simp only [Bool.and_eq_true, decide_eq_true_eq] at hh2
       obtain ⟨a, ha⟩ : ∃ a : Nat, p[i].a = (a : Int) := ⟨p[i].a.toNat, by omega⟩
       obtain ⟨b, hb⟩ : ∃ b : Nat, p[i].b = (b : Int) := ⟨p[i].b.toNat, by omega⟩
       rw [hh] at hc3
       rw [hpr, hh] at hpr2
       rw [ha, hb, Int.toNat_natCast, Int.toNat_natCast] at hst
       rw [ha, hb] at hc3
       have hga := getG (G := W) (i := a) (by omega)
       have hs1 := setG W a b
       have hc4 := bits_with_a (W.getD a 0) b (hwlt a) (by omega)
       have z1 : (a < W.length) = True := eq_true (by omega)
       have z3 : ∀ x : Nat, (0 ≤ (x : Int)) = True := fun x => eq_true (by omega)
       generalize List.map encU (grf m l) = GG at *
       repeat (first | refine aq ?_ | refine ap (by rfl : apartB 0 _ _ = true) ?_ | refine ak ?_ | refine ab ?_ | refine al ?_ | ((first | refine ar ?_ | refine ad ty_mix (by kernel_rfl) ?_ | refine ac ?_ | refine ae ?_ | with_reducible refine Later.mk ?_); simp only [evD, evL, iteL, aX, St.said, St.asked, evStep, evOp, evP, St.init, St.app, srcStep, kill, setMany, loadS, fieldS, buildS, toks, Fin, upd_app, Array.isEmpty, reduceLT, reduceAdd, reduceMul, reduceLeDiff, reduceSub, reduceEqDiff, reduceCtorEq, reduceIte, ↓Opt.is, ↓Opt.no, ↓Asks.yes, ↓Asks.no, tyL, encL, getE h2, encE, ha, hb, hga, z1, z3, List.length_map, Int.toNat_natCast, if_true, asB]))
       refine ⟨_, hc3, ?_⟩; (repeat (first | refine ap (by rfl : apartB 0 _ _ = true) ?_ | refine ap (by simp [osL, D.flat]) ?_)); repeat (first | refine aq ?_ | refine ap (by rfl : apartB 0 _ _ = true) ?_ | refine ak ?_ | refine ab ?_ | refine al ?_ | ((first | refine ar ?_ | refine ad ty_mix (by kernel_rfl) ?_ | refine ac ?_ | refine ae ?_ | with_reducible refine Later.mk ?_); simp only [evD, evL, iteL, aX, St.said, St.asked, evStep, evOp, evP, St.init, St.app, srcStep, kill, setMany, loadS, fieldS, buildS, toks, Fin, upd_app, Array.isEmpty, reduceLT, reduceAdd, reduceMul, reduceLeDiff, reduceSub, reduceEqDiff, reduceCtorEq, reduceIte, ↓Opt.is, ↓Opt.no, ↓Asks.yes, ↓Asks.no, tyL, encL, hga, z1, z3, List.length_map, Int.toNat_natCast, if_true, hs1, asB]))
       refine ⟨_, hc4, ?_⟩; (repeat (first | refine ap (by rfl : apartB 0 _ _ = true) ?_ | refine ap (by simp [osL, D.flat]) ?_)); repeat (first | refine aq ?_ | refine ap (by rfl : apartB 0 _ _ = true) ?_ | refine ak ?_ | refine ab ?_ | refine al ?_ | ((first | refine ar ?_ | refine ad ty_mix (by kernel_rfl) ?_ | refine ac ?_ | refine ae ?_ | with_reducible refine Later.mk ?_); simp only [evD, evL, iteL, aX, St.said, St.asked, evStep, evOp, evP, St.init, St.app, srcStep, kill, setMany, loadS, fieldS, buildS, toks, Fin, upd_app, Array.isEmpty, reduceLT, reduceAdd, reduceMul, reduceLeDiff, reduceSub, reduceEqDiff, reduceCtorEq, reduceIte, ↓Opt.is, ↓Opt.no, ↓Asks.yes, ↓Asks.no, tyL, encL, hga, z1, z3, List.length_map, Int.toNat_natCast, if_true, hs1, hw, asB]))
       refine ⟨h2, hpr2, ?_⟩
       ((first | refine Le.mk rfl ?_ ?_ | refine LeTo.mk rfl ?_ ?_) <;> simp only [evD, evL, iteL, aX, St.said, St.asked, evStep, evOp, evP, St.init, St.app, srcStep, kill, setMany, loadS, fieldS, buildS, toks, Fin, upd_app, Array.isEmpty, reduceLT, reduceAdd, reduceMul, reduceLeDiff, reduceSub, reduceEqDiff, reduceCtorEq, reduceIte, ↓Opt.is, ↓Opt.no, ↓Asks.yes, ↓Asks.no, tyL, encL, leL, leD, ne_eq, hst])
     · have hpf : prE m l p = false := by
         unfold prE
         rw [List.all_eq_false]
         exact ⟨p[i], List.getElem_mem h2, by rw [hh]; simp⟩
       rw [hpf, if_neg (by simp)]
       rw [hh] at hc3
       generalize List.map encU (grf m l) = GG at *
       repeat (first | refine aq ?_ | refine ap (by rfl : apartB 0 _ _ = true) ?_ | refine ak ?_ | refine ab ?_ | refine al ?_ | ((first | refine ar ?_ | refine ad ty_mix (by kernel_rfl) ?_ | refine ac ?_ | refine ae ?_ | with_reducible refine Later.mk ?_); simp only [evD, evL, iteL, aX, St.said, St.asked, evStep, evOp, evP, St.init, St.app, srcStep, kill, setMany, loadS, fieldS, buildS, toks, Fin, upd_app, Array.isEmpty, reduceLT, reduceAdd, reduceMul, reduceLeDiff, reduceSub, reduceEqDiff, reduceCtorEq, reduceIte, ↓Opt.is, ↓Opt.no, ↓Asks.yes, ↓Asks.no, tyL, encL, getE h2, encE, asB]))
       refine ⟨_, hc3, ?_⟩; (repeat (first | refine ap (by rfl : apartB 0 _ _ = true) ?_ | refine ap (by simp [osL, D.flat]) ?_)); repeat (first | refine aq ?_ | refine ap (by rfl : apartB 0 _ _ = true) ?_ | refine ak ?_ | refine ab ?_ | refine al ?_ | ((first | refine ar ?_ | refine ad ty_mix (by kernel_rfl) ?_ | refine ac ?_ | refine ae ?_ | with_reducible refine Later.mk ?_); simp only [evD, evL, iteL, aX, St.said, St.asked, evStep, evOp, evP, St.init, St.app, srcStep, kill, setMany, loadS, fieldS, buildS, toks, Fin, upd_app, Array.isEmpty, reduceLT, reduceAdd, reduceMul, reduceLeDiff, reduceSub, reduceEqDiff, reduceCtorEq, reduceIte, ↓Opt.is, ↓Opt.no, ↓Asks.yes, ↓Asks.no, tyL, encL, getE h2, encE, asB]))
       refine Ab.ret ?_; simp only [evD, evL, iteL, aX, St.said, St.asked, evStep, evOp, evP, St.init, St.app, srcStep, kill, setMany, loadS, fieldS, buildS, toks, Fin, upd_app, Array.isEmpty, reduceLT, reduceAdd, reduceMul, reduceLeDiff, reduceSub, reduceEqDiff, reduceCtorEq, reduceIte, ↓Opt.is, ↓Opt.no, ↓Asks.yes, ↓Asks.no, tyL, List.nodup_cons, encL, Tryz.f97]
   · have h2 : i = p.length := by have := of_decide_eq_false h2; omega
     subst h2
     rw [List.take_length] at hpr hwl hoP
     rw [hpr, if_pos rfl]
     have hgl := grf_len m l
     have hc5 := isAcyclic_a (n := m) hm hoP hgl
     rw [acy_all hoP (by omega)] at hc5
     repeat (first | refine aq ?_ | refine ap (by rfl : apartB 0 _ _ = true) ?_ | refine ak ?_ | refine ab ?_ | refine al ?_ | ((first | refine ar ?_ | refine ad ty_mix (by kernel_rfl) ?_ | refine ac ?_ | refine ae ?_ | with_reducible refine Later.mk ?_); simp only [evD, evL, iteL, aX, St.said, St.asked, evStep, evOp, evP, St.init, St.app, srcStep, kill, setMany, loadS, fieldS, buildS, toks, Fin, upd_app, Array.isEmpty, reduceLT, reduceAdd, reduceMul, reduceLeDiff, reduceSub, reduceEqDiff, reduceCtorEq, reduceIte, ↓Opt.is, ↓Opt.no, ↓Asks.yes, ↓Asks.no, tyL, encL, List.take_length, asB]))
     refine ⟨_, hc5, ?_⟩; (repeat (first | refine ap (by rfl : apartB 0 _ _ = true) ?_ | refine ap (by simp [osL, D.flat]) ?_)); repeat (first | refine aq ?_ | refine ap (by rfl : apartB 0 _ _ = true) ?_ | refine ak ?_ | refine ab ?_ | refine al ?_ | ((first | refine ar ?_ | refine ad ty_mix (by kernel_rfl) ?_ | refine ac ?_ | refine ae ?_ | with_reducible refine Later.mk ?_); simp only [evD, evL, iteL, aX, St.said, St.asked, evStep, evOp, evP, St.init, St.app, srcStep, kill, setMany, loadS, fieldS, buildS, toks, Fin, upd_app, Array.isEmpty, reduceLT, reduceAdd, reduceMul, reduceLeDiff, reduceSub, reduceEqDiff, reduceCtorEq, reduceIte, ↓Opt.is, ↓Opt.no, ↓Asks.yes, ↓Asks.no, tyL, encL, asB]))
     refine Ab.ret ?_; simp only [evD, evL, iteL, aX, St.said, St.asked, evStep, evOp, evP, St.init, St.app, srcStep, kill, setMany, loadS, fieldS, buildS, toks, Fin, upd_app, Array.isEmpty, reduceLT, reduceAdd, reduceMul, reduceLeDiff, reduceSub, reduceEqDiff, reduceCtorEq, reduceIte, ↓Opt.is, ↓Opt.no, ↓Asks.yes, ↓Asks.no, tyL, List.nodup_cons, encL, Tryz.f97]
 · rw [hd] at hc1 ⊢
   rw [Bool.false_and, if_neg (by simp)]
   refine AC.intro Tryz.func97 rfl (by decide) (by simp [S.res, S.ress]) (by simp [S.os, S.oss]) (by simp [S.wfs, S.wf, dbS]) (by simp [Tryz.f97]) ?_; rw [Tryz.ntmps97]
   repeat (first | refine aq ?_ | refine ap (by rfl : apartB 0 _ _ = true) ?_ | refine ak ?_ | refine ab ?_ | refine al ?_ | ((first | refine ar ?_ | refine ad ty_mix (by kernel_rfl) ?_ | refine ac ?_ | refine ae ?_ | with_reducible refine Later.mk ?_); simp only [evD, evL, iteL, aX, St.said, St.asked, evStep, evOp, evP, St.init, St.app, srcStep, kill, setMany, loadS, fieldS, buildS, toks, Fin, upd_app, Array.isEmpty, reduceLT, reduceAdd, reduceMul, reduceLeDiff, reduceSub, reduceEqDiff, reduceCtorEq, reduceIte, ↓Opt.is, ↓Opt.no, ↓Asks.yes, ↓Asks.no, tyL, encL, asB]))
   refine ⟨_, hc1, ?_⟩; (repeat (first | refine ap (by rfl : apartB 0 _ _ = true) ?_ | refine ap (by simp [osL, D.flat]) ?_)); repeat (first | refine aq ?_ | refine ap (by rfl : apartB 0 _ _ = true) ?_ | refine ak ?_ | refine ab ?_ | refine al ?_ | ((first | refine ar ?_ | refine ad ty_mix (by kernel_rfl) ?_ | refine ac ?_ | refine ae ?_ | with_reducible refine Later.mk ?_); simp only [evD, evL, iteL, aX, St.said, St.asked, evStep, evOp, evP, St.init, St.app, srcStep, kill, setMany, loadS, fieldS, buildS, toks, Fin, upd_app, Array.isEmpty, reduceLT, reduceAdd, reduceMul, reduceLeDiff, reduceSub, reduceEqDiff, reduceCtorEq, reduceIte, ↓Opt.is, ↓Opt.no, ↓Asks.yes, ↓Asks.no, tyL, encL, asB]))
   refine Ab.ret ?_; simp only [evD, evL, iteL, aX, St.said, St.asked, evStep, evOp, evP, St.init, St.app, srcStep, kill, setMany, loadS, fieldS, buildS, toks, Fin, upd_app, Array.isEmpty, reduceLT, reduceAdd, reduceMul, reduceLeDiff, reduceSub, reduceEqDiff, reduceCtorEq, reduceIte, ↓Opt.is, ↓Opt.no, ↓Asks.yes, ↓Asks.no, tyL, List.nodup_cons, encL, Tryz.f97]
end Ab
/- Chapter 28: preferences in the model. -/
open Go Go.Proofs Go.RowKit
namespace Ab
theorem any_snoc {α : Type} (l : List α) (f : α → Bool) {i : Nat} (h : i < l.length) : (l.take (i + 1)).any f = ((l.take i).any f || f l[i]) := by
 rw [List.take_succ_eq_append_getElem h, List.any_append, List.any_cons, List.any_nil, Bool.or_false]
theorem all_snoc {α : Type} (l : List α) (f : α → Bool) {i : Nat} (h : i < l.length) : (l.take (i + 1)).all f = ((l.take i).all f && f l[i]) := by
 rw [List.take_succ_eq_append_getElem h, List.all_append, List.all_cons, List.all_nil, Bool.and_true]
theorem any_hit {α : Type} {l : List α} {f : α → Bool} {i : Nat} (h : i < l.length) (hf : f l[i] = true) : l.any f = true := List.any_eq_true.2 ⟨l[i], List.getElem_mem h, hf⟩
theorem l28Edge_a {l : List Edg} (gE : (eSlice eEdg).good l) (a b : Int) (hl : l.length ≤ 1048576) : AC Tryz.prog 93 [.d (encEs l), .d (.v (.int .i64 a)), .d (.v (.int .i64 b))] (.d (.v (.bool (edgeP l a b)))) := by
 have hmn : min a b = if b < a then b else a := by split <;> omega
 have hmx : max a b = if a < b then b else a := by split <;> omega
 refine AC.intro Tryz.func93 rfl (by decide) (by simp [S.res, S.ress]) (by simp [S.os, S.oss]) (by simp [S.wfs, S.wf, dbS]) (by simp [Tryz.f93]) ?_; rw [Tryz.ntmps93]
 repeat (first | refine aq ?_ | refine ap (by rfl : apartB 0 _ _ = true) ?_ | refine ak ?_ | refine ab ?_ | refine al ?_ | ((first | refine ar ?_ | refine ad ty_mix (by kernel_rfl) ?_ | refine ac ?_ | refine ae ?_ | with_reducible refine Later.mk ?_); simp only [evD, evL, iteL, aX, St.said, St.asked, evStep, evOp, evP, St.init, St.app, srcStep, kill, setMany, loadS, fieldS, buildS, toks, Fin, upd_app, Array.isEmpty, reduceLT, reduceAdd, reduceMul, reduceLeDiff, reduceSub, reduceEqDiff, reduceCtorEq, reduceIte, ↓Opt.is, ↓Opt.no, ↓Asks.yes, ↓Asks.no, tyL, encL, asB]))
 refine Ab.loopI l.length (fun i => (l.take i).any (fun e => decide (e.a = min a b) && decide (e.b = max a b)) = false) (fun i => mkS 34 [(0, .d (.sl (List.map encE l))), (1, .d (.v (.int .i64 a))), (2, .d (.v (.int .i64 b))), (7, .d (.v (.int .i64 (i : Int))))] [] 32) rfl ?_ ?_
 · ((first | refine Le.mk rfl ?_ ?_ | refine LeTo.mk rfl ?_ ?_) <;> simp only [evD, evL, iteL, aX, St.said, St.asked, evStep, evOp, evP, St.init, St.app, srcStep, kill, setMany, loadS, fieldS, buildS, toks, Fin, upd_app, Array.isEmpty, reduceLT, reduceAdd, reduceMul, reduceLeDiff, reduceSub, reduceEqDiff, reduceCtorEq, reduceIte, ↓Opt.is, ↓Opt.no, ↓Asks.yes, ↓Asks.no, tyL, encL, leL, leD, ne_eq])
 intro i hi hA
 repeat (first | refine aq ?_ | refine ap (by rfl : apartB 0 _ _ = true) ?_ | refine ak ?_ | refine ab ?_ | refine al ?_ | ((first | refine ar ?_ | refine ad ty_mix (by kernel_rfl) ?_ | refine ac ?_ | refine ae ?_ | with_reducible refine Later.mk ?_); simp only [evD, evL, iteL, aX, St.said, St.asked, evStep, evOp, evP, St.init, St.app, srcStep, kill, setMany, loadS, fieldS, buildS, toks, Fin, upd_app, Array.isEmpty, reduceLT, reduceAdd, reduceMul, reduceLeDiff, reduceSub, reduceEqDiff, reduceCtorEq, reduceIte, ↓Opt.is, ↓Opt.no, ↓Asks.yes, ↓Asks.no, tyL, encL, mkS, updl, asB]))
 refine ⟨fun h => ?_, fun h => ?_⟩
 · have h : i < l.length := by simpa using h
   have hw := wrapN h (by omega)
   have z3 : ∀ x : Nat, (0 ≤ (x : Int)) = True := fun x => eq_true (by omega)
   have hB := any_snoc l (fun e => decide (e.a = min a b) && decide (e.b = max a b)) h
   rw [hA, Bool.false_or] at hB
   by_cases h1 : l[i].a = min a b
   · have b1 : (l[i].a == if b < a then b else a) = true := beq_iff_eq.2 (h1.trans hmn)
     by_cases h2 : l[i].b = max a b
     · have b2 : (l[i].b == if a < b then b else a) = true := beq_iff_eq.2 (h2.trans hmx)
       have hr : edgeP l a b = true := any_hit h (by simp only [h1, h2, decide_true, Bool.and_self])
       repeat (first | refine aq ?_ | refine ap (by rfl : apartB 0 _ _ = true) ?_ | refine ak ?_ | refine ab ?_ | refine al ?_ | ((first | refine ar ?_ | refine ad ty_mix (by kernel_rfl) ?_ | refine ac ?_ | refine ae ?_ | with_reducible refine Later.mk ?_); simp only [evD, evL, iteL, aX, St.said, St.asked, evStep, evOp, evP, St.init, St.app, srcStep, kill, setMany, loadS, fieldS, buildS, toks, Fin, upd_app, Array.isEmpty, reduceLT, reduceAdd, reduceMul, reduceLeDiff, reduceSub, reduceEqDiff, reduceCtorEq, reduceIte, ↓Opt.is, ↓Opt.no, ↓Asks.yes, ↓Asks.no, tyL, encL, getE h, encE, z3, b1, b2, asB]))
       refine Ab.ret ?_; simp only [evD, evL, iteL, aX, St.said, St.asked, evStep, evOp, evP, St.init, St.app, srcStep, kill, setMany, loadS, fieldS, buildS, toks, Fin, upd_app, Array.isEmpty, reduceLT, reduceAdd, reduceMul, reduceLeDiff, reduceSub, reduceEqDiff, reduceCtorEq, reduceIte, ↓Opt.is, ↓Opt.no, ↓Asks.yes, ↓Asks.no, tyL, List.nodup_cons, encL, Tryz.f93, hr]
     · have b2 : (l[i].b == if a < b then b else a) = false := beq_eq_false_iff_ne.2 (hmx ▸ h2)
       repeat (first | refine aq ?_ | refine ap (by rfl : apartB 0 _ _ = true) ?_ | refine ak ?_ | refine ab ?_ | refine al ?_ | ((first | refine ar ?_ | refine ad ty_mix (by kernel_rfl) ?_ | refine ac ?_ | refine ae ?_ | with_reducible refine Later.mk ?_); simp only [evD, evL, iteL, aX, St.said, St.asked, evStep, evOp, evP, St.init, St.app, srcStep, kill, setMany, loadS, fieldS, buildS, toks, Fin, upd_app, Array.isEmpty, reduceLT, reduceAdd, reduceMul, reduceLeDiff, reduceSub, reduceEqDiff, reduceCtorEq, reduceIte, ↓Opt.is, ↓Opt.no, ↓Asks.yes, ↓Asks.no, tyL, encL, getE h, encE, z3, b1, b2, hw, asB]))
       refine ⟨h, ?_, ?_⟩
       · rw [hB, decide_eq_false h2, Bool.and_false]
       ((first | refine Le.mk rfl ?_ ?_ | refine LeTo.mk rfl ?_ ?_) <;> simp only [evD, evL, iteL, aX, St.said, St.asked, evStep, evOp, evP, St.init, St.app, srcStep, kill, setMany, loadS, fieldS, buildS, toks, Fin, upd_app, Array.isEmpty, reduceLT, reduceAdd, reduceMul, reduceLeDiff, reduceSub, reduceEqDiff, reduceCtorEq, reduceIte, ↓Opt.is, ↓Opt.no, ↓Asks.yes, ↓Asks.no, tyL, encL, leL, leD, ne_eq])
   · have b1 : (l[i].a == if b < a then b else a) = false := beq_eq_false_iff_ne.2 (hmn ▸ h1)
     repeat (first | refine aq ?_ | refine ap (by rfl : apartB 0 _ _ = true) ?_ | refine ak ?_ | refine ab ?_ | refine al ?_ | ((first | refine ar ?_ | refine ad ty_mix (by kernel_rfl) ?_ | refine ac ?_ | refine ae ?_ | with_reducible refine Later.mk ?_); simp only [evD, evL, iteL, aX, St.said, St.asked, evStep, evOp, evP, St.init, St.app, srcStep, kill, setMany, loadS, fieldS, buildS, toks, Fin, upd_app, Array.isEmpty, reduceLT, reduceAdd, reduceMul, reduceLeDiff, reduceSub, reduceEqDiff, reduceCtorEq, reduceIte, ↓Opt.is, ↓Opt.no, ↓Asks.yes, ↓Asks.no, tyL, encL, getE h, encE, z3, b1, hw, asB]))
     refine ⟨h, ?_, ?_⟩
     · rw [hB, decide_eq_false h1, Bool.false_and]
     ((first | refine Le.mk rfl ?_ ?_ | refine LeTo.mk rfl ?_ ?_) <;> simp only [evD, evL, iteL, aX, St.said, St.asked, evStep, evOp, evP, St.init, St.app, srcStep, kill, setMany, loadS, fieldS, buildS, toks, Fin, upd_app, Array.isEmpty, reduceLT, reduceAdd, reduceMul, reduceLeDiff, reduceSub, reduceEqDiff, reduceCtorEq, reduceIte, ↓Opt.is, ↓Opt.no, ↓Asks.yes, ↓Asks.no, tyL, encL, leL, leD, ne_eq])
 · have h : i = l.length := by have := of_decide_eq_false h; omega
   subst h
   rw [List.take_length] at hA
   have hr : edgeP l a b = false := hA
   repeat (first | refine aq ?_ | refine ap (by rfl : apartB 0 _ _ = true) ?_ | refine ak ?_ | refine ab ?_ | refine al ?_ | ((first | refine ar ?_ | refine ad ty_mix (by kernel_rfl) ?_ | refine ac ?_ | refine ae ?_ | with_reducible refine Later.mk ?_); simp only [evD, evL, iteL, aX, St.said, St.asked, evStep, evOp, evP, St.init, St.app, srcStep, kill, setMany, loadS, fieldS, buildS, toks, Fin, upd_app, Array.isEmpty, reduceLT, reduceAdd, reduceMul, reduceLeDiff, reduceSub, reduceEqDiff, reduceCtorEq, reduceIte, ↓Opt.is, ↓Opt.no, ↓Asks.yes, ↓Asks.no, tyL, encL, asB]))
   refine Ab.ret ?_; simp only [evD, evL, iteL, aX, St.said, St.asked, evStep, evOp, evP, St.init, St.app, srcStep, kill, setMany, loadS, fieldS, buildS, toks, Fin, upd_app, Array.isEmpty, reduceLT, reduceAdd, reduceMul, reduceLeDiff, reduceSub, reduceEqDiff, reduceCtorEq, reduceIte, ↓Opt.is, ↓Opt.no, ↓Asks.yes, ↓Asks.no, tyL, List.nodup_cons, encL, Tryz.f93, hr]
theorem isPreferred_a {p : List Edg} (gP : (eSlice eEdg).good p) (a b : Int) (hp : p.length ≤ 1048576) : AC Tryz.prog 94 [.d (encEs p), .d (.v (.int .i64 a)), .d (.v (.int .i64 b))] (.d (.v (.bool (isPr p a b)))) := by
 refine AC.intro Tryz.func94 rfl (by decide) (by simp [S.res, S.ress]) (by simp [S.os, S.oss]) (by simp [S.wfs, S.wf, dbS]) (by simp [Tryz.f94]) ?_; rw [Tryz.ntmps94]
 repeat (first | refine aq ?_ | refine ap (by rfl : apartB 0 _ _ = true) ?_ | refine ak ?_ | refine ab ?_ | refine al ?_ | ((first | refine ar ?_ | refine ad ty_mix (by kernel_rfl) ?_ | refine ac ?_ | refine ae ?_ | with_reducible refine Later.mk ?_); simp only [evD, evL, iteL, aX, St.said, St.asked, evStep, evOp, evP, St.init, St.app, srcStep, kill, setMany, loadS, fieldS, buildS, toks, Fin, upd_app, Array.isEmpty, reduceLT, reduceAdd, reduceMul, reduceLeDiff, reduceSub, reduceEqDiff, reduceCtorEq, reduceIte, ↓Opt.is, ↓Opt.no, ↓Asks.yes, ↓Asks.no, tyL, encL, asB]))
 refine Ab.loopI p.length (fun i => (p.take i).any (fun e => decide (e.a = a) && decide (e.b = b)) = false) (fun i => mkS 30 [(0, .d (.sl (List.map encE p))), (1, .d (.v (.int .i64 a))), (2, .d (.v (.int .i64 b))), (7, .d (.v (.int .i64 (i : Int))))] [] 32) rfl ?_ ?_
 · ((first | refine Le.mk rfl ?_ ?_ | refine LeTo.mk rfl ?_ ?_) <;> simp only [evD, evL, iteL, aX, St.said, St.asked, evStep, evOp, evP, St.init, St.app, srcStep, kill, setMany, loadS, fieldS, buildS, toks, Fin, upd_app, Array.isEmpty, reduceLT, reduceAdd, reduceMul, reduceLeDiff, reduceSub, reduceEqDiff, reduceCtorEq, reduceIte, ↓Opt.is, ↓Opt.no, ↓Asks.yes, ↓Asks.no, tyL, encL, leL, leD, ne_eq])
 intro i hi hA
 repeat (first | refine aq ?_ | refine ap (by rfl : apartB 0 _ _ = true) ?_ | refine ak ?_ | refine ab ?_ | refine al ?_ | ((first | refine ar ?_ | refine ad ty_mix (by kernel_rfl) ?_ | refine ac ?_ | refine ae ?_ | with_reducible refine Later.mk ?_); simp only [evD, evL, iteL, aX, St.said, St.asked, evStep, evOp, evP, St.init, St.app, srcStep, kill, setMany, loadS, fieldS, buildS, toks, Fin, upd_app, Array.isEmpty, reduceLT, reduceAdd, reduceMul, reduceLeDiff, reduceSub, reduceEqDiff, reduceCtorEq, reduceIte, ↓Opt.is, ↓Opt.no, ↓Asks.yes, ↓Asks.no, tyL, encL, mkS, updl, asB]))
 refine ⟨fun h => ?_, fun h => ?_⟩
 · have h : i < p.length := by simpa using h
   have hw := wrapN h (by omega)
   have z3 : ∀ x : Nat, (0 ≤ (x : Int)) = True := fun x => eq_true (by omega)
   have hB := any_snoc p (fun e => decide (e.a = a) && decide (e.b = b)) h
   rw [hA, Bool.false_or] at hB
   by_cases h1 : p[i].a = a
   · have b1 : (p[i].a == a) = true := beq_iff_eq.2 h1
     by_cases h2 : p[i].b = b
     · have b2 : (p[i].b == b) = true := beq_iff_eq.2 h2
       have hr : isPr p a b = true := any_hit h (by simp only [h1, h2, decide_true, Bool.and_self])
       repeat (first | refine aq ?_ | refine ap (by rfl : apartB 0 _ _ = true) ?_ | refine ak ?_ | refine ab ?_ | refine al ?_ | ((first | refine ar ?_ | refine ad ty_mix (by kernel_rfl) ?_ | refine ac ?_ | refine ae ?_ | with_reducible refine Later.mk ?_); simp only [evD, evL, iteL, aX, St.said, St.asked, evStep, evOp, evP, St.init, St.app, srcStep, kill, setMany, loadS, fieldS, buildS, toks, Fin, upd_app, Array.isEmpty, reduceLT, reduceAdd, reduceMul, reduceLeDiff, reduceSub, reduceEqDiff, reduceCtorEq, reduceIte, ↓Opt.is, ↓Opt.no, ↓Asks.yes, ↓Asks.no, tyL, encL, getE h, encE, z3, b1, b2, asB]))
       refine Ab.ret ?_; simp only [evD, evL, iteL, aX, St.said, St.asked, evStep, evOp, evP, St.init, St.app, srcStep, kill, setMany, loadS, fieldS, buildS, toks, Fin, upd_app, Array.isEmpty, reduceLT, reduceAdd, reduceMul, reduceLeDiff, reduceSub, reduceEqDiff, reduceCtorEq, reduceIte, ↓Opt.is, ↓Opt.no, ↓Asks.yes, ↓Asks.no, tyL, List.nodup_cons, encL, Tryz.f94, hr]
     · have b2 : (p[i].b == b) = false := beq_eq_false_iff_ne.2 h2
       repeat (first | refine aq ?_ | refine ap (by rfl : apartB 0 _ _ = true) ?_ | refine ak ?_ | refine ab ?_ | refine al ?_ | ((first | refine ar ?_ | refine ad ty_mix (by kernel_rfl) ?_ | refine ac ?_ | refine ae ?_ | with_reducible refine Later.mk ?_); simp only [evD, evL, iteL, aX, St.said, St.asked, evStep, evOp, evP, St.init, St.app, srcStep, kill, setMany, loadS, fieldS, buildS, toks, Fin, upd_app, Array.isEmpty, reduceLT, reduceAdd, reduceMul, reduceLeDiff, reduceSub, reduceEqDiff, reduceCtorEq, reduceIte, ↓Opt.is, ↓Opt.no, ↓Asks.yes, ↓Asks.no, tyL, encL, getE h, encE, z3, b1, b2, hw, asB]))
       refine ⟨h, ?_, ?_⟩
       · rw [hB, decide_eq_false h2, Bool.and_false]
       ((first | refine Le.mk rfl ?_ ?_ | refine LeTo.mk rfl ?_ ?_) <;> simp only [evD, evL, iteL, aX, St.said, St.asked, evStep, evOp, evP, St.init, St.app, srcStep, kill, setMany, loadS, fieldS, buildS, toks, Fin, upd_app, Array.isEmpty, reduceLT, reduceAdd, reduceMul, reduceLeDiff, reduceSub, reduceEqDiff, reduceCtorEq, reduceIte, ↓Opt.is, ↓Opt.no, ↓Asks.yes, ↓Asks.no, tyL, encL, leL, leD, ne_eq])
   · have b1 : (p[i].a == a) = false := beq_eq_false_iff_ne.2 h1
     repeat (first | refine aq ?_ | refine ap (by rfl : apartB 0 _ _ = true) ?_ | refine ak ?_ | refine ab ?_ | refine al ?_ | ((first | refine ar ?_ | refine ad ty_mix (by kernel_rfl) ?_ | refine ac ?_ | refine ae ?_ | with_reducible refine Later.mk ?_); simp only [evD, evL, iteL, aX, St.said, St.asked, evStep, evOp, evP, St.init, St.app, srcStep, kill, setMany, loadS, fieldS, buildS, toks, Fin, upd_app, Array.isEmpty, reduceLT, reduceAdd, reduceMul, reduceLeDiff, reduceSub, reduceEqDiff, reduceCtorEq, reduceIte, ↓Opt.is, ↓Opt.no, ↓Asks.yes, ↓Asks.no, tyL, encL, getE h, encE, z3, b1, hw, asB]))
     refine ⟨h, ?_, ?_⟩
     · rw [hB, decide_eq_false h1, Bool.false_and]
     ((first | refine Le.mk rfl ?_ ?_ | refine LeTo.mk rfl ?_ ?_) <;> simp only [evD, evL, iteL, aX, St.said, St.asked, evStep, evOp, evP, St.init, St.app, srcStep, kill, setMany, loadS, fieldS, buildS, toks, Fin, upd_app, Array.isEmpty, reduceLT, reduceAdd, reduceMul, reduceLeDiff, reduceSub, reduceEqDiff, reduceCtorEq, reduceIte, ↓Opt.is, ↓Opt.no, ↓Asks.yes, ↓Asks.no, tyL, encL, leL, leD, ne_eq])
 · have h : i = p.length := by have := of_decide_eq_false h; omega
   subst h
   rw [List.take_length] at hA
   have hr : isPr p a b = false := hA
   repeat (first | refine aq ?_ | refine ap (by rfl : apartB 0 _ _ = true) ?_ | refine ak ?_ | refine ab ?_ | refine al ?_ | ((first | refine ar ?_ | refine ad ty_mix (by kernel_rfl) ?_ | refine ac ?_ | refine ae ?_ | with_reducible refine Later.mk ?_); simp only [evD, evL, iteL, aX, St.said, St.asked, evStep, evOp, evP, St.init, St.app, srcStep, kill, setMany, loadS, fieldS, buildS, toks, Fin, upd_app, Array.isEmpty, reduceLT, reduceAdd, reduceMul, reduceLeDiff, reduceSub, reduceEqDiff, reduceCtorEq, reduceIte, ↓Opt.is, ↓Opt.no, ↓Asks.yes, ↓Asks.no, tyL, encL, asB]))
   refine Ab.ret ?_; simp only [evD, evL, iteL, aX, St.said, St.asked, evStep, evOp, evP, St.init, St.app, srcStep, kill, setMany, loadS, fieldS, buildS, toks, Fin, upd_app, Array.isEmpty, reduceLT, reduceAdd, reduceMul, reduceLeDiff, reduceSub, reduceEqDiff, reduceCtorEq, reduceIte, ↓Opt.is, ↓Opt.no, ↓Asks.yes, ↓Asks.no, tyL, List.nodup_cons, encL, Tryz.f94, hr]
def encTf (b : Bool) : List D := [.v (.bool b)]
theorem getTf {g : List Bool} {i : Nat} (h : i < g.length) : (g.map encTf)[i]? = some [.v (.bool (g.getD i false))] := by
 rw [List.getD_eq_getElem?_getD, List.getElem?_map, List.getElem?_eq_getElem h]
 rfl
theorem setTf (g : List Bool) (x : Nat) : (g.map encTf).set x [.v (.bool true)] = (g.set x true).map encTf := by
 rw [List.map_set]
 rfl
theorem specIsValidPreference_a {n : Int} {l p : List Edg} (gE : (eSlice eEdg).good l) (gP : (eSlice eEdg).good p) (hl : l.length ≤ 1048576) (hp : p.length ≤ 1048576) : AC Tryz.prog 90 [.d (.v (.int .i64 n)), .d (encEs l), .d (encEs p)] (.d (.v (.bool (prfOk n l p)))) := by
 have hc1 := specAreValidEdges_a (n := n) gE
 unfold prfOk
 rcases Bool.eq_false_or_eq_true (validE n l) with hd | hd
 · obtain ⟨m, rfl, hm, hok⟩ := validE_ok hd
   rw [hd] at hc1 ⊢
   rw [Int.toNat_natCast, Bool.true_and]
   refine AC.intro Tryz.func90 rfl (by decide) (by simp [S.res, S.ress]) (by simp [S.os, S.oss]) (by simp [S.wfs, S.wf, dbS]) (by simp [Tryz.f90]) ?_; rw [Tryz.ntmps90]
   repeat (first | refine aq ?_ | refine ap (by rfl : apartB 0 _ _ = true) ?_ | refine ak ?_ | refine ab ?_ | refine al ?_ | ((first | refine ar ?_ | refine ad ty_mix (by kernel_rfl) ?_ | refine ac ?_ | refine ae ?_ | with_reducible refine Later.mk ?_); simp only [evD, evL, iteL, aX, St.said, St.asked, evStep, evOp, evP, St.init, St.app, srcStep, kill, setMany, loadS, fieldS, buildS, toks, Fin, upd_app, Array.isEmpty, reduceLT, reduceAdd, reduceMul, reduceLeDiff, reduceSub, reduceEqDiff, reduceCtorEq, reduceIte, ↓Opt.is, ↓Opt.no, ↓Asks.yes, ↓Asks.no, tyL, encL, asB]))
   refine ⟨_, hc1, ?_⟩; (repeat (first | refine ap (by rfl : apartB 0 _ _ = true) ?_ | refine ap (by simp [osL, D.flat]) ?_)); repeat (first | refine aq ?_ | refine ap (by rfl : apartB 0 _ _ = true) ?_ | refine ak ?_ | refine ab ?_ | refine al ?_ | ((first | refine ar ?_ | refine ad ty_mix (by kernel_rfl) ?_ | refine ac ?_ | refine ae ?_ | with_reducible refine Later.mk ?_); simp only [evD, evL, iteL, aX, St.said, St.asked, evStep, evOp, evP, St.init, St.app, srcStep, kill, setMany, loadS, fieldS, buildS, toks, Fin, upd_app, Array.isEmpty, reduceLT, reduceAdd, reduceMul, reduceLeDiff, reduceSub, reduceEqDiff, reduceCtorEq, reduceIte, ↓Opt.is, ↓Opt.no, ↓Asks.yes, ↓Asks.no, tyL, encL, asB]))
   refine Ab.loopI p.length (fun i => prE m l (p.take i) = true) (fun i => mkS 102 [(0, .d (.v (.int .i64 (m : Int)))), (1, .d (.sl (List.map encE l))), (2, .d (.sl (List.map encE p))), (7, .d (.v (.int .i64 (i : Int))))] [] 96) rfl ?_ ?_
   · ((first | refine Le.mk rfl ?_ ?_ | refine LeTo.mk rfl ?_ ?_) <;> simp only [evD, evL, iteL, aX, St.said, St.asked, evStep, evOp, evP, St.init, St.app, srcStep, kill, setMany, loadS, fieldS, buildS, toks, Fin, upd_app, Array.isEmpty, reduceLT, reduceAdd, reduceMul, reduceLeDiff, reduceSub, reduceEqDiff, reduceCtorEq, reduceIte, ↓Opt.is, ↓Opt.no, ↓Asks.yes, ↓Asks.no, tyL, encL, leL, leD, ne_eq])
   intro i hi hpr
   repeat (first | refine aq ?_ | refine ap (by rfl : apartB 0 _ _ = true) ?_ | refine ak ?_ | refine ab ?_ | refine al ?_ | ((first | refine ar ?_ | refine ad ty_mix (by kernel_rfl) ?_ | refine ac ?_ | refine ae ?_ | with_reducible refine Later.mk ?_); simp only [evD, evL, iteL, aX, St.said, St.asked, evStep, evOp, evP, St.init, St.app, srcStep, kill, setMany, loadS, fieldS, buildS, toks, Fin, upd_app, Array.isEmpty, reduceLT, reduceAdd, reduceMul, reduceLeDiff, reduceSub, reduceEqDiff, reduceCtorEq, reduceIte, ↓Opt.is, ↓Opt.no, ↓Asks.yes, ↓Asks.no, tyL, encL, mkS, updl, asB]))
   refine ⟨fun h => ?_, fun h => ?_⟩
   · have h : i < p.length := by simpa using h
     have hw := wrapN h (by omega)
     have z3 : ∀ x : Nat, (0 ≤ (x : Int)) = True := fun x => eq_true (by omega)
     have he := has_edge hok p[i].a p[i].b
     have hce := l28Edge_a gE p[i].a p[i].b hl
     have hpr2 : prE m l (p.take (i + 1)) = (prE m l (p.take i) && hasPE m l p[i].a p[i].b) := all_snoc p _ h
     rw [hpr, Bool.true_and, he] at hpr2
     by_cases h1 : p[i].a = p[i].b
     · have b1 : (p[i].a == p[i].b) = true := beq_iff_eq.2 h1
       have hpf : prE m l p = false := by
         unfold prE
         rw [List.all_eq_false]
         exact ⟨p[i], List.getElem_mem h, by rw [he, decide_eq_true h1]; simp⟩
       rw [hpf]
       repeat (first | refine aq ?_ | refine ap (by rfl : apartB 0 _ _ = true) ?_ | refine ak ?_ | refine ab ?_ | refine al ?_ | ((first | refine ar ?_ | refine ad ty_mix (by kernel_rfl) ?_ | refine ac ?_ | refine ae ?_ | with_reducible refine Later.mk ?_); simp only [evD, evL, iteL, aX, St.said, St.asked, evStep, evOp, evP, St.init, St.app, srcStep, kill, setMany, loadS, fieldS, buildS, toks, Fin, upd_app, Array.isEmpty, reduceLT, reduceAdd, reduceMul, reduceLeDiff, reduceSub, reduceEqDiff, reduceCtorEq, reduceIte, ↓Opt.is, ↓Opt.no, ↓Asks.yes, ↓Asks.no, tyL, encL, getE h, encE, z3, b1, asB]))
       refine Ab.ret ?_; simp only [evD, evL, iteL, aX, St.said, St.asked, evStep, evOp, evP, St.init, St.app, srcStep, kill, setMany, loadS, fieldS, buildS, toks, Fin, upd_app, Array.isEmpty, reduceLT, reduceAdd, reduceMul, reduceLeDiff, reduceSub, reduceEqDiff, reduceCtorEq, reduceIte, ↓Opt.is, ↓Opt.no, ↓Asks.yes, ↓Asks.no, tyL, List.nodup_cons, encL, Tryz.f90]
     · have b1 : (p[i].a == p[i].b) = false := beq_eq_false_iff_ne.2 h1
       rw [decide_eq_false h1, Bool.not_false, Bool.true_and] at hpr2 he
       rcases Bool.eq_false_or_eq_true (edgeP l p[i].a p[i].b) with h2 | h2 <;> rw [h2] at hce hpr2 he
       · repeat (first | refine aq ?_ | refine ap (by rfl : apartB 0 _ _ = true) ?_ | refine ak ?_ | refine ab ?_ | refine al ?_ | ((first | refine ar ?_ | refine ad ty_mix (by kernel_rfl) ?_ | refine ac ?_ | refine ae ?_ | with_reducible refine Later.mk ?_); simp only [evD, evL, iteL, aX, St.said, St.asked, evStep, evOp, evP, St.init, St.app, srcStep, kill, setMany, loadS, fieldS, buildS, toks, Fin, upd_app, Array.isEmpty, reduceLT, reduceAdd, reduceMul, reduceLeDiff, reduceSub, reduceEqDiff, reduceCtorEq, reduceIte, ↓Opt.is, ↓Opt.no, ↓Asks.yes, ↓Asks.no, tyL, encL, getE h, encE, z3, b1, asB]))
         refine ⟨_, hce, ?_⟩; (repeat (first | refine ap (by rfl : apartB 0 _ _ = true) ?_ | refine ap (by simp [osL, D.flat]) ?_)); repeat (first | refine aq ?_ | refine ap (by rfl : apartB 0 _ _ = true) ?_ | refine ak ?_ | refine ab ?_ | refine al ?_ | ((first | refine ar ?_ | refine ad ty_mix (by kernel_rfl) ?_ | refine ac ?_ | refine ae ?_ | with_reducible refine Later.mk ?_); simp only [evD, evL, iteL, aX, St.said, St.asked, evStep, evOp, evP, St.init, St.app, srcStep, kill, setMany, loadS, fieldS, buildS, toks, Fin, upd_app, Array.isEmpty, reduceLT, reduceAdd, reduceMul, reduceLeDiff, reduceSub, reduceEqDiff, reduceCtorEq, reduceIte, ↓Opt.is, ↓Opt.no, ↓Asks.yes, ↓Asks.no, tyL, encL, getE h, encE, z3, b1, hw, asB]))
         refine ⟨h, hpr2, ?_⟩
         ((first | refine Le.mk rfl ?_ ?_ | refine LeTo.mk rfl ?_ ?_) <;> simp only [evD, evL, iteL, aX, St.said, St.asked, evStep, evOp, evP, St.init, St.app, srcStep, kill, setMany, loadS, fieldS, buildS, toks, Fin, upd_app, Array.isEmpty, reduceLT, reduceAdd, reduceMul, reduceLeDiff, reduceSub, reduceEqDiff, reduceCtorEq, reduceIte, ↓Opt.is, ↓Opt.no, ↓Asks.yes, ↓Asks.no, tyL, encL, leL, leD, ne_eq])
       · have hpf : prE m l p = false := by
           unfold prE
           rw [List.all_eq_false]
           exact ⟨p[i], List.getElem_mem h, by rw [he]; simp⟩
         rw [hpf]
         repeat (first | refine aq ?_ | refine ap (by rfl : apartB 0 _ _ = true) ?_ | refine ak ?_ | refine ab ?_ | refine al ?_ | ((first | refine ar ?_ | refine ad ty_mix (by kernel_rfl) ?_ | refine ac ?_ | refine ae ?_ | with_reducible refine Later.mk ?_); simp only [evD, evL, iteL, aX, St.said, St.asked, evStep, evOp, evP, St.init, St.app, srcStep, kill, setMany, loadS, fieldS, buildS, toks, Fin, upd_app, Array.isEmpty, reduceLT, reduceAdd, reduceMul, reduceLeDiff, reduceSub, reduceEqDiff, reduceCtorEq, reduceIte, ↓Opt.is, ↓Opt.no, ↓Asks.yes, ↓Asks.no, tyL, encL, getE h, encE, z3, b1, asB]))
         refine ⟨_, hce, ?_⟩; (repeat (first | refine ap (by rfl : apartB 0 _ _ = true) ?_ | refine ap (by simp [osL, D.flat]) ?_)); repeat (first | refine aq ?_ | refine ap (by rfl : apartB 0 _ _ = true) ?_ | refine ak ?_ | refine ab ?_ | refine al ?_ | ((first | refine ar ?_ | refine ad ty_mix (by kernel_rfl) ?_ | refine ac ?_ | refine ae ?_ | with_reducible refine Later.mk ?_); simp only [evD, evL, iteL, aX, St.said, St.asked, evStep, evOp, evP, St.init, St.app, srcStep, kill, setMany, loadS, fieldS, buildS, toks, Fin, upd_app, Array.isEmpty, reduceLT, reduceAdd, reduceMul, reduceLeDiff, reduceSub, reduceEqDiff, reduceCtorEq, reduceIte, ↓Opt.is, ↓Opt.no, ↓Asks.yes, ↓Asks.no, tyL, encL, getE h, encE, z3, b1, asB]))
         refine Ab.ret ?_; simp only [evD, evL, iteL, aX, St.said, St.asked, evStep, evOp, evP, St.init, St.app, srcStep, kill, setMany, loadS, fieldS, buildS, toks, Fin, upd_app, Array.isEmpty, reduceLT, reduceAdd, reduceMul, reduceLeDiff, reduceSub, reduceEqDiff, reduceCtorEq, reduceIte, ↓Opt.is, ↓Opt.no, ↓Asks.yes, ↓Asks.no, tyL, List.nodup_cons, encL, Tryz.f90]
   · have h : i = p.length := by have := of_decide_eq_false h; omega
     subst h
     rw [List.take_length] at hpr
     have hoP := prE_ok hpr
     rw [hpr, Bool.true_and]
     repeat (first | refine aq ?_ | refine ap (by rfl : apartB 0 _ _ = true) ?_ | refine ak ?_ | refine ab ?_ | refine al ?_ | ((first | refine ar ?_ | refine ad ty_mix (by kernel_rfl) ?_ | refine ac ?_ | refine ae ?_ | with_reducible refine Later.mk ?_); simp only [evD, evL, iteL, aX, St.said, St.asked, evStep, evOp, evP, St.init, St.app, srcStep, kill, setMany, loadS, fieldS, buildS, toks, Fin, upd_app, Array.isEmpty, reduceLT, reduceAdd, reduceMul, reduceLeDiff, reduceSub, reduceEqDiff, reduceCtorEq, reduceIte, ↓Opt.is, ↓Opt.no, ↓Asks.yes, ↓Asks.no, tyL, encL, asB]))
     refine ⟨by simp [D.flat], by omega, by simp only [maxLen]; omega, ?_⟩
     repeat (first | refine aq ?_ | refine ap (by rfl : apartB 0 _ _ = true) ?_ | refine ak ?_ | refine ab ?_ | refine al ?_ | ((first | refine ar ?_ | refine ad ty_mix (by kernel_rfl) ?_ | refine ac ?_ | refine ae ?_ | with_reducible refine Later.mk ?_); simp only [evD, evL, iteL, aX, St.said, St.asked, evStep, evOp, evP, St.init, St.app, srcStep, kill, setMany, loadS, fieldS, buildS, toks, Fin, upd_app, Array.isEmpty, reduceLT, reduceAdd, reduceMul, reduceLeDiff, reduceSub, reduceEqDiff, reduceCtorEq, reduceIte, ↓Opt.is, ↓Opt.no, ↓Asks.yes, ↓Asks.no, tyL, encL, asB]))
     refine Ab.loopI m (fun _ => True) (fun k => mkS 102 [(0, .d (.v (.int .i64 (m : Int)))), (2, .d (.sl (List.map encE p))), (8, .m 176), (9, .d (.v (.int .i64 (k : Int))))] [(176, .arr true 4 1 ((rdG p m k).map encTf))] 224) trivial ?_ ?_
     · ((first | refine Le.mk rfl ?_ ?_ | refine LeTo.mk rfl ?_ ?_) <;> simp only [evD, evL, iteL, aX, St.said, St.asked, evStep, evOp, evP, St.init, St.app, srcStep, kill, setMany, loadS, fieldS, buildS, toks, Fin, upd_app, Array.isEmpty, reduceLT, reduceAdd, reduceMul, reduceLeDiff, reduceSub, reduceEqDiff, reduceCtorEq, reduceIte, ↓Opt.is, ↓Opt.no, ↓Asks.yes, ↓Asks.no, tyL, encL, leL, leD, ne_eq, rdG, List.map_replicate, encTf])
     intro k hk _
     repeat (first | refine aq ?_ | refine ap (by rfl : apartB 0 _ _ = true) ?_ | refine ak ?_ | refine ab ?_ | refine al ?_ | ((first | refine ar ?_ | refine ad ty_mix (by kernel_rfl) ?_ | refine ac ?_ | refine ae ?_ | with_reducible refine Later.mk ?_); simp only [evD, evL, iteL, aX, St.said, St.asked, evStep, evOp, evP, St.init, St.app, srcStep, kill, setMany, loadS, fieldS, buildS, toks, Fin, upd_app, Array.isEmpty, reduceLT, reduceAdd, reduceMul, reduceLeDiff, reduceSub, reduceEqDiff, reduceCtorEq, reduceIte, ↓Opt.is, ↓Opt.no, ↓Asks.yes, ↓Asks.no, tyL, encL, mkS, updl, asB]))
     refine ⟨fun h => ?_, fun h => ?_⟩
     · have h : k < m := by simpa using h
       have hw := wrapN h (by omega)
       have hgl := rdG_len p m k
       have hst : rdG p m (k + 1) = swG p (rdG p m k) m := rfl
       generalize rdG p m k = g at *
       repeat (first | refine aq ?_ | refine ap (by rfl : apartB 0 _ _ = true) ?_ | refine ak ?_ | refine ab ?_ | refine al ?_ | ((first | refine ar ?_ | refine ad ty_mix (by kernel_rfl) ?_ | refine ac ?_ | refine ae ?_ | with_reducible refine Later.mk ?_); simp only [evD, evL, iteL, aX, St.said, St.asked, evStep, evOp, evP, St.init, St.app, srcStep, kill, setMany, loadS, fieldS, buildS, toks, Fin, upd_app, Array.isEmpty, reduceLT, reduceAdd, reduceMul, reduceLeDiff, reduceSub, reduceEqDiff, reduceCtorEq, reduceIte, ↓Opt.is, ↓Opt.no, ↓Asks.yes, ↓Asks.no, tyL, encL, asB]))
       refine Ab.loopI m (fun _ => True) (fun x => mkS 102 [(0, .d (.v (.int .i64 (m : Int)))), (2, .d (.sl (List.map encE p))), (8, .m 176), (9, .d (.v (.int .i64 (k : Int)))), (10, .d (.v (.int .i64 (x : Int))))] [(176, .arr true 4 1 ((swG p g x).map encTf))] 256) trivial ?_ ?_
       · ((first | refine Le.mk rfl ?_ ?_ | refine LeTo.mk rfl ?_ ?_) <;> simp only [evD, evL, iteL, aX, St.said, St.asked, evStep, evOp, evP, St.init, St.app, srcStep, kill, setMany, loadS, fieldS, buildS, toks, Fin, upd_app, Array.isEmpty, reduceLT, reduceAdd, reduceMul, reduceLeDiff, reduceSub, reduceEqDiff, reduceCtorEq, reduceIte, ↓Opt.is, ↓Opt.no, ↓Asks.yes, ↓Asks.no, tyL, encL, leL, leD, ne_eq, swG])
       intro x hx _
       repeat (first | refine aq ?_ | refine ap (by rfl : apartB 0 _ _ = true) ?_ | refine ak ?_ | refine ab ?_ | refine al ?_ | ((first | refine ar ?_ | refine ad ty_mix (by kernel_rfl) ?_ | refine ac ?_ | refine ae ?_ | with_reducible refine Later.mk ?_); simp only [evD, evL, iteL, aX, St.said, St.asked, evStep, evOp, evP, St.init, St.app, srcStep, kill, setMany, loadS, fieldS, buildS, toks, Fin, upd_app, Array.isEmpty, reduceLT, reduceAdd, reduceMul, reduceLeDiff, reduceSub, reduceEqDiff, reduceCtorEq, reduceIte, ↓Opt.is, ↓Opt.no, ↓Asks.yes, ↓Asks.no, tyL, encL, mkS, updl, asB]))
       refine ⟨fun h2 => ?_, fun h2 => ?_⟩
       · have h2 : x < m := by simpa using h2
         have hw2 := wrapN h2 (by omega)
         have hsl := swG_len p g x
         have hst2 : swG p g (x + 1) = if freeG p (swG p g x) x = true then (swG p g x).set x true else swG p g x := rfl
         generalize swG p g x = G at *
         repeat (first | refine aq ?_ | refine ap (by rfl : apartB 0 _ _ = true) ?_ | refine ak ?_ | refine ab ?_ | refine al ?_ | ((first | refine ar ?_ | refine ad ty_mix (by kernel_rfl) ?_ | refine ac ?_ | refine ae ?_ | with_reducible refine Later.mk ?_); simp only [evD, evL, iteL, aX, St.said, St.asked, evStep, evOp, evP, St.init, St.app, srcStep, kill, setMany, loadS, fieldS, buildS, toks, Fin, upd_app, Array.isEmpty, reduceLT, reduceAdd, reduceMul, reduceLeDiff, reduceSub, reduceEqDiff, reduceCtorEq, reduceIte, ↓Opt.is, ↓Opt.no, ↓Asks.yes, ↓Asks.no, tyL, encL, asB]))
         refine Ab.loopI p.length (fun _ => True) (fun i => mkS 102 [(0, .d (.v (.int .i64 (m : Int)))), (2, .d (.sl (List.map encE p))), (8, .m 176), (9, .d (.v (.int .i64 (k : Int)))), (10, .d (.v (.int .i64 (x : Int)))), (11, .d (.v (.bool ((p.take i).all fun e => !decide (e.b = (x : Int)) || G.getD e.a.toNat false)))), (12, .d (.v (.int .i64 (i : Int))))] [(176, .arr true 4 1 (G.map encTf))] 288) trivial ?_ ?_
         · ((first | refine Le.mk rfl ?_ ?_ | refine LeTo.mk rfl ?_ ?_) <;> simp only [evD, evL, iteL, aX, St.said, St.asked, evStep, evOp, evP, St.init, St.app, srcStep, kill, setMany, loadS, fieldS, buildS, toks, Fin, upd_app, Array.isEmpty, reduceLT, reduceAdd, reduceMul, reduceLeDiff, reduceSub, reduceEqDiff, reduceCtorEq, reduceIte, ↓Opt.is, ↓Opt.no, ↓Asks.yes, ↓Asks.no, tyL, encL, leL, leD, ne_eq, List.take_zero, List.all_nil])
         intro i hi _
         repeat (first | refine aq ?_ | refine ap (by rfl : apartB 0 _ _ = true) ?_ | refine ak ?_ | refine ab ?_ | refine al ?_ | ((first | refine ar ?_ | refine ad ty_mix (by kernel_rfl) ?_ | refine ac ?_ | refine ae ?_ | with_reducible refine Later.mk ?_); simp only [evD, evL, iteL, aX, St.said, St.asked, evStep, evOp, evP, St.init, St.app, srcStep, kill, setMany, loadS, fieldS, buildS, toks, Fin, upd_app, Array.isEmpty, reduceLT, reduceAdd, reduceMul, reduceLeDiff, reduceSub, reduceEqDiff, reduceCtorEq, reduceIte, ↓Opt.is, ↓Opt.no, ↓Asks.yes, ↓Asks.no, tyL, encL, mkS, updl, asB]))
         refine ⟨fun h3 => ?_, fun h3 => ?_⟩
         · have h3 : i < p.length := by simpa using h3
           have hw3 := wrapN h3 (by omega)
           have z3 : ∀ x : Nat, (0 ≤ (x : Int)) = True := fun x => eq_true (by omega)
           have hst3 := all_snoc p (fun e => !decide (e.b = (x : Int)) || G.getD e.a.toNat false) h3
           have hoe := hoP _ (List.getElem_mem h3)
           obtain ⟨a, ha⟩ : ∃ a : Nat, p[i].a = (a : Int) := ⟨p[i].a.toNat, by omega⟩
           rw [ha, Int.toNat_natCast] at hst3
           have hga := getTf (g := G) (i := a) (by omega)
           have z1 : (a < G.length) = True := eq_true (by omega)
           rcases Bool.eq_false_or_eq_true ((p.take i).all fun e => !decide (e.b = (x : Int)) || G.getD e.a.toNat false) with c1 | c1 <;> rw [c1] at hst3 ⊢
           · by_cases c2 : p[i].b = (x : Int)
             · have b2 : (p[i].b != (x : Int)) = false := by rw [c2]; exact bne_self_eq_false _
               rw [decide_eq_true c2] at hst3
               simp only [Bool.not_true, Bool.false_or, Bool.true_and] at hst3
               repeat (first | refine aq ?_ | refine ap (by rfl : apartB 0 _ _ = true) ?_ | refine ak ?_ | refine ab ?_ | refine al ?_ | ((first | refine ar ?_ | refine ad ty_mix (by kernel_rfl) ?_ | refine ac ?_ | refine ae ?_ | with_reducible refine Later.mk ?_); simp only [evD, evL, iteL, aX, St.said, St.asked, evStep, evOp, evP, St.init, St.app, srcStep, kill, setMany, loadS, fieldS, buildS, toks, Fin, upd_app, Array.isEmpty, reduceLT, reduceAdd, reduceMul, reduceLeDiff, reduceSub, reduceEqDiff, reduceCtorEq, reduceIte, ↓Opt.is, ↓Opt.no, ↓Asks.yes, ↓Asks.no, tyL, encL, getE h3, encE, ha, hga, z1, z3, List.length_map, Int.toNat_natCast, if_true, b2, hw3, asB]))
               refine ⟨h3, ?_⟩
               ((first | refine Le.mk rfl ?_ ?_ | refine LeTo.mk rfl ?_ ?_) <;> simp only [evD, evL, iteL, aX, St.said, St.asked, evStep, evOp, evP, St.init, St.app, srcStep, kill, setMany, loadS, fieldS, buildS, toks, Fin, upd_app, Array.isEmpty, reduceLT, reduceAdd, reduceMul, reduceLeDiff, reduceSub, reduceEqDiff, reduceCtorEq, reduceIte, ↓Opt.is, ↓Opt.no, ↓Asks.yes, ↓Asks.no, tyL, encL, leL, leD, ne_eq, hst3])
             · have b2 : (p[i].b != (x : Int)) = true := bne_iff_ne.2 c2
               rw [decide_eq_false c2] at hst3
               simp only [Bool.not_false, Bool.true_or, Bool.true_and] at hst3
               repeat (first | refine aq ?_ | refine ap (by rfl : apartB 0 _ _ = true) ?_ | refine ak ?_ | refine ab ?_ | refine al ?_ | ((first | refine ar ?_ | refine ad ty_mix (by kernel_rfl) ?_ | refine ac ?_ | refine ae ?_ | with_reducible refine Later.mk ?_); simp only [evD, evL, iteL, aX, St.said, St.asked, evStep, evOp, evP, St.init, St.app, srcStep, kill, setMany, loadS, fieldS, buildS, toks, Fin, upd_app, Array.isEmpty, reduceLT, reduceAdd, reduceMul, reduceLeDiff, reduceSub, reduceEqDiff, reduceCtorEq, reduceIte, ↓Opt.is, ↓Opt.no, ↓Asks.yes, ↓Asks.no, tyL, encL, getE h3, encE, ha, hga, z1, z3, List.length_map, Int.toNat_natCast, if_true, b2, hw3, asB]))
               refine ⟨h3, ?_⟩
               ((first | refine Le.mk rfl ?_ ?_ | refine LeTo.mk rfl ?_ ?_) <;> simp only [evD, evL, iteL, aX, St.said, St.asked, evStep, evOp, evP, St.init, St.app, srcStep, kill, setMany, loadS, fieldS, buildS, toks, Fin, upd_app, Array.isEmpty, reduceLT, reduceAdd, reduceMul, reduceLeDiff, reduceSub, reduceEqDiff, reduceCtorEq, reduceIte, ↓Opt.is, ↓Opt.no, ↓Asks.yes, ↓Asks.no, tyL, encL, leL, leD, ne_eq, hst3])
           · repeat (first | refine aq ?_ | refine ap (by rfl : apartB 0 _ _ = true) ?_ | refine ak ?_ | refine ab ?_ | refine al ?_ | ((first | refine ar ?_ | refine ad ty_mix (by kernel_rfl) ?_ | refine ac ?_ | refine ae ?_ | with_reducible refine Later.mk ?_); simp only [evD, evL, iteL, aX, St.said, St.asked, evStep, evOp, evP, St.init, St.app, srcStep, kill, setMany, loadS, fieldS, buildS, toks, Fin, upd_app, Array.isEmpty, reduceLT, reduceAdd, reduceMul, reduceLeDiff, reduceSub, reduceEqDiff, reduceCtorEq, reduceIte, ↓Opt.is, ↓Opt.no, ↓Asks.yes, ↓Asks.no, tyL, encL, getE h3, encE, ha, hga, z1, z3, List.length_map, Int.toNat_natCast, if_true, hw3, asB]))
             refine ⟨h3, ?_⟩
             ((first | refine Le.mk rfl ?_ ?_ | refine LeTo.mk rfl ?_ ?_) <;> simp only [evD, evL, iteL, aX, St.said, St.asked, evStep, evOp, evP, St.init, St.app, srcStep, kill, setMany, loadS, fieldS, buildS, toks, Fin, upd_app, Array.isEmpty, reduceLT, reduceAdd, reduceMul, reduceLeDiff, reduceSub, reduceEqDiff, reduceCtorEq, reduceIte, ↓Opt.is, ↓Opt.no, ↓Asks.yes, ↓Asks.no, tyL, encL, leL, leD, ne_eq, hst3])
         · have h3 : i = p.length := by have := of_decide_eq_false h3; omega
           subst h3
           have hfr : (p.all fun e => !decide (e.b = (x : Int)) || G.getD e.a.toNat false) = freeG p G x := rfl
           rw [List.take_length, hfr]
           have z3 : ∀ x : Nat, (0 ≤ (x : Int)) = True := fun x => eq_true (by omega)
           have z1 : (x < G.length) = True := eq_true (by omega)
           have hss := setTf G x
           have hgx := getTf (g := G) (i := x) (by omega)
           rcases Bool.eq_false_or_eq_true (freeG p G x) with c1 | c1 <;> rw [c1] at hst2 ⊢
           · rw [if_pos rfl] at hst2
             repeat (first | refine aq ?_ | refine ap (by rfl : apartB 0 _ _ = true) ?_ | refine ak ?_ | refine ab ?_ | refine al ?_ | ((first | refine ar ?_ | refine ad ty_mix (by kernel_rfl) ?_ | refine ac ?_ | refine ae ?_ | with_reducible refine Later.mk ?_); simp only [evD, evL, iteL, aX, St.said, St.asked, evStep, evOp, evP, St.init, St.app, srcStep, kill, setMany, loadS, fieldS, buildS, toks, Fin, upd_app, Array.isEmpty, reduceLT, reduceAdd, reduceMul, reduceLeDiff, reduceSub, reduceEqDiff, reduceCtorEq, reduceIte, ↓Opt.is, ↓Opt.no, ↓Asks.yes, ↓Asks.no, tyL, encL, z1, z3, List.length_map, Int.toNat_natCast, if_true, hss, hgx, hw2, asB]))
             refine ⟨h2, ?_⟩
             ((first | refine Le.mk rfl ?_ ?_ | refine LeTo.mk rfl ?_ ?_) <;> simp only [evD, evL, iteL, aX, St.said, St.asked, evStep, evOp, evP, St.init, St.app, srcStep, kill, setMany, loadS, fieldS, buildS, toks, Fin, upd_app, Array.isEmpty, reduceLT, reduceAdd, reduceMul, reduceLeDiff, reduceSub, reduceEqDiff, reduceCtorEq, reduceIte, ↓Opt.is, ↓Opt.no, ↓Asks.yes, ↓Asks.no, tyL, encL, leL, leD, ne_eq, hst2])
           · rw [if_neg (by simp)] at hst2
             repeat (first | refine aq ?_ | refine ap (by rfl : apartB 0 _ _ = true) ?_ | refine ak ?_ | refine ab ?_ | refine al ?_ | ((first | refine ar ?_ | refine ad ty_mix (by kernel_rfl) ?_ | refine ac ?_ | refine ae ?_ | with_reducible refine Later.mk ?_); simp only [evD, evL, iteL, aX, St.said, St.asked, evStep, evOp, evP, St.init, St.app, srcStep, kill, setMany, loadS, fieldS, buildS, toks, Fin, upd_app, Array.isEmpty, reduceLT, reduceAdd, reduceMul, reduceLeDiff, reduceSub, reduceEqDiff, reduceCtorEq, reduceIte, ↓Opt.is, ↓Opt.no, ↓Asks.yes, ↓Asks.no, tyL, encL, hw2, asB]))
             refine ⟨h2, ?_⟩
             ((first | refine Le.mk rfl ?_ ?_ | refine LeTo.mk rfl ?_ ?_) <;> simp only [evD, evL, iteL, aX, St.said, St.asked, evStep, evOp, evP, St.init, St.app, srcStep, kill, setMany, loadS, fieldS, buildS, toks, Fin, upd_app, Array.isEmpty, reduceLT, reduceAdd, reduceMul, reduceLeDiff, reduceSub, reduceEqDiff, reduceCtorEq, reduceIte, ↓Opt.is, ↓Opt.no, ↓Asks.yes, ↓Asks.no, tyL, encL, leL, leD, ne_eq, hst2])
       · have h2 : x = m := by have := of_decide_eq_false h2; omega
         subst h2
         repeat (first | refine aq ?_ | refine ap (by rfl : apartB 0 _ _ = true) ?_ | refine ak ?_ | refine ab ?_ | refine al ?_ | ((first | refine ar ?_ | refine ad ty_mix (by kernel_rfl) ?_ | refine ac ?_ | refine ae ?_ | with_reducible refine Later.mk ?_); simp only [evD, evL, iteL, aX, St.said, St.asked, evStep, evOp, evP, St.init, St.app, srcStep, kill, setMany, loadS, fieldS, buildS, toks, Fin, upd_app, Array.isEmpty, reduceLT, reduceAdd, reduceMul, reduceLeDiff, reduceSub, reduceEqDiff, reduceCtorEq, reduceIte, ↓Opt.is, ↓Opt.no, ↓Asks.yes, ↓Asks.no, tyL, encL, hw, asB]))
         refine ⟨h, ?_⟩
         ((first | refine Le.mk rfl ?_ ?_ | refine LeTo.mk rfl ?_ ?_) <;> simp only [evD, evL, iteL, aX, St.said, St.asked, evStep, evOp, evP, St.init, St.app, srcStep, kill, setMany, loadS, fieldS, buildS, toks, Fin, upd_app, Array.isEmpty, reduceLT, reduceAdd, reduceMul, reduceLeDiff, reduceSub, reduceEqDiff, reduceCtorEq, reduceIte, ↓Opt.is, ↓Opt.no, ↓Asks.yes, ↓Asks.no, tyL, encL, leL, leD, ne_eq, hst])
     · have h : k = m := by have := of_decide_eq_false h; omega
       subst h
       have hgl := rdG_len p k k
       unfold allG
       generalize rdG p k k = g at *
       repeat (first | refine aq ?_ | refine ap (by rfl : apartB 0 _ _ = true) ?_ | refine ak ?_ | refine ab ?_ | refine al ?_ | ((first | refine ar ?_ | refine ad ty_mix (by kernel_rfl) ?_ | refine ac ?_ | refine ae ?_ | with_reducible refine Later.mk ?_); simp only [evD, evL, iteL, aX, St.said, St.asked, evStep, evOp, evP, St.init, St.app, srcStep, kill, setMany, loadS, fieldS, buildS, toks, Fin, upd_app, Array.isEmpty, reduceLT, reduceAdd, reduceMul, reduceLeDiff, reduceSub, reduceEqDiff, reduceCtorEq, reduceIte, ↓Opt.is, ↓Opt.no, ↓Asks.yes, ↓Asks.no, tyL, encL, asB]))
       refine Ab.loopI g.length (fun x => ((g.take x).all fun b => b) = true) (fun x => mkS 102 [(0, .d (.v (.int .i64 (k : Int)))), (8, .m 176), (13, .d (.v (.int .i64 (x : Int))))] [(176, .arr true 4 1 (g.map encTf))] 288) rfl ?_ ?_
       · ((first | refine Le.mk rfl ?_ ?_ | refine LeTo.mk rfl ?_ ?_) <;> simp only [evD, evL, iteL, aX, St.said, St.asked, evStep, evOp, evP, St.init, St.app, srcStep, kill, setMany, loadS, fieldS, buildS, toks, Fin, upd_app, Array.isEmpty, reduceLT, reduceAdd, reduceMul, reduceLeDiff, reduceSub, reduceEqDiff, reduceCtorEq, reduceIte, ↓Opt.is, ↓Opt.no, ↓Asks.yes, ↓Asks.no, tyL, encL, leL, leD, ne_eq])
       intro x hx hA
       repeat (first | refine aq ?_ | refine ap (by rfl : apartB 0 _ _ = true) ?_ | refine ak ?_ | refine ab ?_ | refine al ?_ | ((first | refine ar ?_ | refine ad ty_mix (by kernel_rfl) ?_ | refine ac ?_ | refine ae ?_ | with_reducible refine Later.mk ?_); simp only [evD, evL, iteL, aX, St.said, St.asked, evStep, evOp, evP, St.init, St.app, srcStep, kill, setMany, loadS, fieldS, buildS, toks, Fin, upd_app, Array.isEmpty, reduceLT, reduceAdd, reduceMul, reduceLeDiff, reduceSub, reduceEqDiff, reduceCtorEq, reduceIte, ↓Opt.is, ↓Opt.no, ↓Asks.yes, ↓Asks.no, tyL, encL, mkS, updl, asB]))
       refine ⟨fun h2 => ?_, fun h2 => ?_⟩
       · have h2 : x < g.length := by rw [hgl]; simpa using h2
         have hw2 := wrapN h2 (by omega)
         have hB := all_snoc g (fun b => b) h2
         rw [hA, Bool.true_and] at hB
         have z3 : ∀ x : Nat, (0 ≤ (x : Int)) = True := fun x => eq_true (by omega)
         have z1 : (x < g.length) = True := eq_true h2
         have hgx := getTf h2
         have hge : g.getD x false = g[x] := by rw [List.getD_eq_getElem?_getD, List.getElem?_eq_getElem h2]; rfl
         rw [hge] at hgx
         rcases Bool.eq_false_or_eq_true g[x] with c1 | c1
         · rw [c1] at hgx hB
           repeat (first | refine aq ?_ | refine ap (by rfl : apartB 0 _ _ = true) ?_ | refine ak ?_ | refine ab ?_ | refine al ?_ | ((first | refine ar ?_ | refine ad ty_mix (by kernel_rfl) ?_ | refine ac ?_ | refine ae ?_ | with_reducible refine Later.mk ?_); simp only [evD, evL, iteL, aX, St.said, St.asked, evStep, evOp, evP, St.init, St.app, srcStep, kill, setMany, loadS, fieldS, buildS, toks, Fin, upd_app, Array.isEmpty, reduceLT, reduceAdd, reduceMul, reduceLeDiff, reduceSub, reduceEqDiff, reduceCtorEq, reduceIte, ↓Opt.is, ↓Opt.no, ↓Asks.yes, ↓Asks.no, tyL, encL, z1, z3, List.length_map, Int.toNat_natCast, if_true, hgx, hw2, asB]))
           refine ⟨hB, ?_⟩
           ((first | refine Le.mk rfl ?_ ?_ | refine LeTo.mk rfl ?_ ?_) <;> simp only [evD, evL, iteL, aX, St.said, St.asked, evStep, evOp, evP, St.init, St.app, srcStep, kill, setMany, loadS, fieldS, buildS, toks, Fin, upd_app, Array.isEmpty, reduceLT, reduceAdd, reduceMul, reduceLeDiff, reduceSub, reduceEqDiff, reduceCtorEq, reduceIte, ↓Opt.is, ↓Opt.no, ↓Asks.yes, ↓Asks.no, tyL, encL, leL, leD, ne_eq])
         · have hr : (g.all fun b => b) = false := List.all_eq_false.2 ⟨g[x], List.getElem_mem h2, by rw [c1]; simp⟩
           rw [c1] at hgx
           repeat (first | refine aq ?_ | refine ap (by rfl : apartB 0 _ _ = true) ?_ | refine ak ?_ | refine ab ?_ | refine al ?_ | ((first | refine ar ?_ | refine ad ty_mix (by kernel_rfl) ?_ | refine ac ?_ | refine ae ?_ | with_reducible refine Later.mk ?_); simp only [evD, evL, iteL, aX, St.said, St.asked, evStep, evOp, evP, St.init, St.app, srcStep, kill, setMany, loadS, fieldS, buildS, toks, Fin, upd_app, Array.isEmpty, reduceLT, reduceAdd, reduceMul, reduceLeDiff, reduceSub, reduceEqDiff, reduceCtorEq, reduceIte, ↓Opt.is, ↓Opt.no, ↓Asks.yes, ↓Asks.no, tyL, encL, z1, z3, List.length_map, Int.toNat_natCast, if_true, hgx, asB]))
           refine Ab.ret ?_; simp only [evD, evL, iteL, aX, St.said, St.asked, evStep, evOp, evP, St.init, St.app, srcStep, kill, setMany, loadS, fieldS, buildS, toks, Fin, upd_app, Array.isEmpty, reduceLT, reduceAdd, reduceMul, reduceLeDiff, reduceSub, reduceEqDiff, reduceCtorEq, reduceIte, ↓Opt.is, ↓Opt.no, ↓Asks.yes, ↓Asks.no, tyL, List.nodup_cons, encL, Tryz.f90, hr]
       · have h2 : x = g.length := by have := of_decide_eq_false h2; omega
         subst h2
         rw [List.take_length] at hA
         repeat (first | refine aq ?_ | refine ap (by rfl : apartB 0 _ _ = true) ?_ | refine ak ?_ | refine ab ?_ | refine al ?_ | ((first | refine ar ?_ | refine ad ty_mix (by kernel_rfl) ?_ | refine ac ?_ | refine ae ?_ | with_reducible refine Later.mk ?_); simp only [evD, evL, iteL, aX, St.said, St.asked, evStep, evOp, evP, St.init, St.app, srcStep, kill, setMany, loadS, fieldS, buildS, toks, Fin, upd_app, Array.isEmpty, reduceLT, reduceAdd, reduceMul, reduceLeDiff, reduceSub, reduceEqDiff, reduceCtorEq, reduceIte, ↓Opt.is, ↓Opt.no, ↓Asks.yes, ↓Asks.no, tyL, encL, asB]))
         refine Ab.ret ?_; simp only [evD, evL, iteL, aX, St.said, St.asked, evStep, evOp, evP, St.init, St.app, srcStep, kill, setMany, loadS, fieldS, buildS, toks, Fin, upd_app, Array.isEmpty, reduceLT, reduceAdd, reduceMul, reduceLeDiff, reduceSub, reduceEqDiff, reduceCtorEq, reduceIte, ↓Opt.is, ↓Opt.no, ↓Asks.yes, ↓Asks.no, tyL, List.nodup_cons, encL, Tryz.f90, hA]
 · rw [hd] at hc1 ⊢
   rw [Bool.false_and]
   refine AC.intro Tryz.func90 rfl (by decide) (by simp [S.res, S.ress]) (by simp [S.os, S.oss]) (by simp [S.wfs, S.wf, dbS]) (by simp [Tryz.f90]) ?_; rw [Tryz.ntmps90]
   repeat (first | refine aq ?_ | refine ap (by rfl : apartB 0 _ _ = true) ?_ | refine ak ?_ | refine ab ?_ | refine al ?_ | ((first | refine ar ?_ | refine ad ty_mix (by kernel_rfl) ?_ | refine ac ?_ | refine ae ?_ | with_reducible refine Later.mk ?_); simp only [evD, evL, iteL, aX, St.said, St.asked, evStep, evOp, evP, St.init, St.app, srcStep, kill, setMany, loadS, fieldS, buildS, toks, Fin, upd_app, Array.isEmpty, reduceLT, reduceAdd, reduceMul, reduceLeDiff, reduceSub, reduceEqDiff, reduceCtorEq, reduceIte, ↓Opt.is, ↓Opt.no, ↓Asks.yes, ↓Asks.no, tyL, encL, asB]))
   refine ⟨_, hc1, ?_⟩; (repeat (first | refine ap (by rfl : apartB 0 _ _ = true) ?_ | refine ap (by simp [osL, D.flat]) ?_)); repeat (first | refine aq ?_ | refine ap (by rfl : apartB 0 _ _ = true) ?_ | refine ak ?_ | refine ab ?_ | refine al ?_ | ((first | refine ar ?_ | refine ad ty_mix (by kernel_rfl) ?_ | refine ac ?_ | refine ae ?_ | with_reducible refine Later.mk ?_); simp only [evD, evL, iteL, aX, St.said, St.asked, evStep, evOp, evP, St.init, St.app, srcStep, kill, setMany, loadS, fieldS, buildS, toks, Fin, upd_app, Array.isEmpty, reduceLT, reduceAdd, reduceMul, reduceLeDiff, reduceSub, reduceEqDiff, reduceCtorEq, reduceIte, ↓Opt.is, ↓Opt.no, ↓Asks.yes, ↓Asks.no, tyL, encL, asB]))
   refine Ab.ret ?_; simp only [evD, evL, iteL, aX, St.said, St.asked, evStep, evOp, evP, St.init, St.app, srcStep, kill, setMany, loadS, fieldS, buildS, toks, Fin, upd_app, Array.isEmpty, reduceLT, reduceAdd, reduceMul, reduceLeDiff, reduceSub, reduceEqDiff, reduceCtorEq, reduceIte, ↓Opt.is, ↓Opt.no, ↓Asks.yes, ↓Asks.no, tyL, List.nodup_cons, encL, Tryz.f90]
theorem prf_ok {n : Int} {l p : List Edg} (h : prfOk n l p = true) : validE n l = true ∧ prE n.toNat l p = true ∧ ∃ m : Nat, n = (m : Int) ∧ m ≤ 14 ∧ okN m l ∧ okP m p := by
 unfold prfOk at h
 simp only [Bool.and_eq_true] at h
 obtain ⟨m, rfl, hm, hok⟩ := validE_ok h.1
 exact ⟨h.1, h.2.1, m, rfl, hm, hok, prE_ok h.2.1⟩
end Ab
/- Chapter 28: the facts that none of the others beats. -/
open Go Go.Proofs Go.RowKit
namespace Ab
def udOk (n : Int) (l p : List Edg) (s : List Int) : Bool := prfOk n l p && setIx n s
def udL (n : Int) (l p : List Edg) (s : List Int) : List Int := if udOk n l p s = true then s.filter fun y => s.all fun x => !isPr p x y else []
end Ab
end

section
/- Chapter 28: Pareto-optimal repairs. -/
open Go Go.Proofs Go.RowKit
namespace Ab
def domL (l p : List Edg) (s : List Int) (x : Int) : Bool := s.all fun y => !edgeP l x y || isPr p x y
def parL (n : Nat) (l p : List Edg) (s : List Int) : Bool := (List.range n).all fun x => s.contains (x : Int) || !domL l p s (x : Int)
def parOk (n : Int) (l p : List Edg) (s : List Int) : Bool := prfOk n l p && (maxI n l s && parL n.toNat l p s)
theorem dom_sub {n : Nat} {l p : List Edg} {s : List Int} (hn : n ≤ 14) (hok : okN n l) (hp : okP n p) (hin : InS n l s (bitsI s)) {x : Nat} (hx : x < n) (hns : s.contains (x : Int) = false) : sub ((grf n l).getD x 0 &&& bitsI s) ((wrs n p).getD x 0) ↔ domL l p s (x : Int) = true := by
 have h64 := hin.in64 (by omega)
 rw [sub_iff]
 unfold domL
 rw [List.all_eq_true]
 have he : ∀ y : Nat, (y : Int) ∈ s → edgeP l (x : Int) (y : Int) = adjE l x y := fun y hy => by
   have h1 := has_edge hok (x : Int) (y : Int)
   have h2 := hin.rng _ hy
   have h3 : (x : Int) ≠ (y : Int) := fun e => by
     rw [← e] at hy
     rw [List.contains_iff_mem.2 hy] at hns
     cases hns
   unfold hasPE at h1
   rw [decide_eq_false h3, Bool.not_false, Bool.true_and, decide_eq_true (by omega), decide_eq_true (by omega), decide_eq_true (by omega), decide_eq_true (by omega), Bool.and_self, Bool.true_and, Bool.true_and, Int.toNat_natCast, Int.toNat_natCast] at h1
   exact h1.symm
 constructor
 · intro h y hy
   have h2 := hin.rng y hy
   obtain ⟨v, rfl⟩ : ∃ v : Nat, y = (v : Int) := ⟨y.toNat, by omega⟩
   rw [he v hy]
   cases ha : adjE l x v with
   | false => rfl
   | true =>
     have h3 := h v (by rw [Nat.testBit_and, grf_test hok, ha, bitsI_test s h64, List.contains_iff_mem.2 hy]; rfl)
     rw [wrs_test hp] at h3
     rw [h3]
     rfl
 · intro h v hv
   rw [Nat.testBit_and, grf_test hok, bitsI_test s h64, Bool.and_eq_true] at hv
   have hy := List.contains_iff_mem.1 hv.2
   have h2 := h _ hy
   rw [he v hy, hv.1] at h2
   rw [wrs_test hp]
   simpa using h2
theorem out_mem {n : Nat} {l : List Edg} {s : List Int} (hn : n ≤ 14) (hin : InS n l s (bitsI s)) (x : Int) : x ∈ elemsN 64 (andNot (2 ^ n - 1) (bitsI s)) ↔ ∃ v : Nat, v < n ∧ s.contains (v : Int) = false ∧ x = (v : Int) := by
 have h64 := hin.in64 (by omega)
 rw [elems_mem]
 constructor
 · rintro ⟨v, h1, h2, rfl⟩
   rw [andNot_test, Nat.testBit_two_pow_sub_one, bitsI_test s h64, Bool.and_eq_true, decide_eq_true_eq, Bool.not_eq_true'] at h2
   exact ⟨v, h2.1, h2.2, rfl⟩
 · rintro ⟨v, h1, h2, rfl⟩
   refine ⟨v, by omega, ?_, rfl⟩
   rw [andNot_test, Nat.testBit_two_pow_sub_one, bitsI_test s h64, h2, decide_eq_true h1]
   rfl
theorem par_all {n : Nat} {l p : List Edg} {s : List Int} (hn : n ≤ 14) (hin : InS n l s (bitsI s)) : ((elemsN 64 (andNot (2 ^ n - 1) (bitsI s))).all fun x => !domL l p s x) = parL n l p s := by
 unfold parL
 rw [Bool.eq_iff_iff, List.all_eq_true, List.all_eq_true]
 constructor
 · intro h x hx
   rw [List.mem_range] at hx
   cases hc : s.contains (x : Int) with
   | true => rfl
   | false =>
     have := h (x : Int) ((out_mem hn hin _).2 ⟨x, hx, hc, rfl⟩)
     rw [this]
     rfl
 · intro h x hx
   obtain ⟨v, h1, h2, rfl⟩ := (out_mem hn hin x).1 hx
   have := h v (List.mem_range.2 h1)
   rw [h2, Bool.false_or] at this
   exact this
theorem isPareto_a {n : Nat} {l p : List Edg} {s : List Int} (hn : n ≤ 14) (hok : okN n l) (hp : okP n p) (hin : InS n l s (bitsI s)) : AC Tryz.prog 99 [.a [.d (.sl ((grf n l).map encU)), .d (.sl ((wrs n p).map encU))], .d (.v (.int .u64 (bitsI s : Int)))] (.d (.v (.bool (parL n l p s)))) := by
 have h64 := hin.in64 (by omega)
 have hlt := bitsI_lt s h64
 have hgl := grf_len n l
 have hwl := wrs_len n p
 have hc1 := vertices_a (G := grf n l) (by omega)
 rw [hgl] at hc1
 have h14 := pow14p hn
 have e1 := bAn (a := 2 ^ n - 1) (b := bitsI s) (by omega) hlt
 have hc2 := elements_a (andNot (2 ^ n - 1) (bitsI s)) (andNot_lt _ (by omega))
 have hmem := out_mem hn hin
 have hll := elems_len 64 (andNot (2 ^ n - 1) (bitsI s))
 rw [← par_all hn hin]
 generalize elemsN 64 (andNot (2 ^ n - 1) (bitsI s)) = E at *
 refine AC.intro Tryz.func99 rfl (by decide) (by simp [S.res, S.ress]) (by simp [S.os, S.oss]) (by simp [S.wfs, S.wf, dbS]) (by simp [Tryz.f99]) ?_; rw [Tryz.ntmps99]
 repeat (first | refine aq ?_ | refine ap (by rfl : apartB 0 _ _ = true) ?_ | refine ak ?_ | refine ab ?_ | refine al ?_ | ((first | refine ar ?_ | refine ad ty_mix (by kernel_rfl) ?_ | refine ac ?_ | refine ae ?_ | with_reducible refine Later.mk ?_); simp only [evD, evL, iteL, aX, St.said, St.asked, evStep, evOp, evP, St.init, St.app, srcStep, kill, setMany, loadS, fieldS, buildS, toks, Fin, upd_app, Array.isEmpty, reduceLT, reduceAdd, reduceMul, reduceLeDiff, reduceSub, reduceEqDiff, reduceCtorEq, reduceIte, ↓Opt.is, ↓Opt.no, ↓Asks.yes, ↓Asks.no, tyL, encL, asB]))
 refine ⟨_, hc1, ?_⟩; (repeat (first | refine ap (by rfl : apartB 0 _ _ = true) ?_ | refine ap (by simp [osL, D.flat]) ?_)); repeat (first | refine aq ?_ | refine ap (by rfl : apartB 0 _ _ = true) ?_ | refine ak ?_ | refine ab ?_ | refine al ?_ | ((first | refine ar ?_ | refine ad ty_mix (by kernel_rfl) ?_ | refine ac ?_ | refine ae ?_ | with_reducible refine Later.mk ?_); simp only [evD, evL, iteL, aX, St.said, St.asked, evStep, evOp, evP, St.init, St.app, srcStep, kill, setMany, loadS, fieldS, buildS, toks, Fin, upd_app, Array.isEmpty, reduceLT, reduceAdd, reduceMul, reduceLeDiff, reduceSub, reduceEqDiff, reduceCtorEq, reduceIte, ↓Opt.is, ↓Opt.no, ↓Asks.yes, ↓Asks.no, tyL, encL, e1, asB]))
 refine ⟨_, hc2, ?_⟩; (repeat (first | refine ap (by rfl : apartB 0 _ _ = true) ?_ | refine ap (by simp [osL, D.flat]) ?_)); repeat (first | refine aq ?_ | refine ap (by rfl : apartB 0 _ _ = true) ?_ | refine ak ?_ | refine ab ?_ | refine al ?_ | ((first | refine ar ?_ | refine ad ty_mix (by kernel_rfl) ?_ | refine ac ?_ | refine ae ?_ | with_reducible refine Later.mk ?_); simp only [evD, evL, iteL, aX, St.said, St.asked, evStep, evOp, evP, St.init, St.app, srcStep, kill, setMany, loadS, fieldS, buildS, toks, Fin, upd_app, Array.isEmpty, reduceLT, reduceAdd, reduceMul, reduceLeDiff, reduceSub, reduceEqDiff, reduceCtorEq, reduceIte, ↓Opt.is, ↓Opt.no, ↓Asks.yes, ↓Asks.no, tyL, encL, asB]))
 have hglt := fun i => grf_lt hok (by omega : n ≤ 64) i
 have hwlt := fun i => wrs_lt hp (by omega : n ≤ 64) i
 have hds := fun (x : Nat) (h1 : x < n) (h2 : s.contains (x : Int) = false) => dom_sub hn hok hp hin h1 h2
 generalize grf n l = G at *
 generalize wrs n p = W at *
 refine Ab.loopI E.length (fun i => ((E.take i).all fun x => !domL l p s x) = true) (fun i => mkS 34 [(1, .d (.v (.int .u64 (bitsI s : Int)))), (2, .p 0 0), (13, .o 112 (.sl (List.map encI E))), (14, .d (.v (.int .i64 (E.length : Int)))), (15, .d (.v (.int .i64 (i : Int))))] [(0, .box [.d (.sl (List.map encU G)), .d (.sl (List.map encU W))]), (112, .tok (.sl (List.map encI E)))] 160) rfl ?_ ?_
 · ((first | refine Le.mk rfl ?_ ?_ | refine LeTo.mk rfl ?_ ?_) <;> simp only [evD, evL, iteL, aX, St.said, St.asked, evStep, evOp, evP, St.init, St.app, srcStep, kill, setMany, loadS, fieldS, buildS, toks, Fin, upd_app, Array.isEmpty, reduceLT, reduceAdd, reduceMul, reduceLeDiff, reduceSub, reduceEqDiff, reduceCtorEq, reduceIte, ↓Opt.is, ↓Opt.no, ↓Asks.yes, ↓Asks.no, tyL, encL, leL, leD, ne_eq])
 intro i hi hA
 repeat (first | refine aq ?_ | refine ap (by rfl : apartB 0 _ _ = true) ?_ | refine ak ?_ | refine ab ?_ | refine al ?_ | ((first | refine ar ?_ | refine ad ty_mix (by kernel_rfl) ?_ | refine ac ?_ | refine ae ?_ | with_reducible refine Later.mk ?_); simp only [evD, evL, iteL, aX, St.said, St.asked, evStep, evOp, evP, St.init, St.app, srcStep, kill, setMany, loadS, fieldS, buildS, toks, Fin, upd_app, Array.isEmpty, reduceLT, reduceAdd, reduceMul, reduceLeDiff, reduceSub, reduceEqDiff, reduceCtorEq, reduceIte, ↓Opt.is, ↓Opt.no, ↓Asks.yes, ↓Asks.no, tyL, encL, mkS, updl, asB]))
 refine ⟨fun h => ?_, fun h => ?_⟩
 · have h : i < E.length := by simpa using h
   have hw := wrapN h (by omega)
   have hst := all_snoc E (fun x => !domL l p s x) h
   rw [hA, Bool.true_and] at hst
   obtain ⟨v, h1, h2, h3⟩ := (hmem E[i]).1 (List.getElem_mem h)
   have hd := hds v h1 h2
   have e2 := bAnd (G.getD v 0) (bitsI s) (hglt v) hlt
   have hand : G.getD v 0 &&& bitsI s < 18446744073709551616 := Nat.lt_of_le_of_lt Nat.and_le_right hlt
   have hgq := getG (G := G) (i := v) (by omega)
   have hgw := getG (G := W) (i := v) (by omega)
   have z1 : (v < G.length) = True := eq_true (by omega)
   have z2 : (v < W.length) = True := eq_true (by omega)
   have z3 : ∀ x : Nat, (0 ≤ (x : Int)) = True := fun x => eq_true (by omega)
   have hsub := isSubsetOf_a (G.getD v 0 &&& bitsI s) (W.getD v 0) hand (hwlt v)
   rw [h3] at hst
   rcases Bool.eq_false_or_eq_true (domL l p s (v : Int)) with c1 | c1
   · rw [decide_eq_true (hd.2 c1)] at hsub
     have hr : (E.all fun x => !domL l p s x) = false := List.all_eq_false.2 ⟨E[i], List.getElem_mem h, by rw [h3, c1]; simp⟩
     rw [hr]
     repeat (first | refine aq ?_ | refine ap (by rfl : apartB 0 _ _ = true) ?_ | refine ak ?_ | refine ab ?_ | refine al ?_ | ((first | refine ar ?_ | refine ad ty_mix (by kernel_rfl) ?_ | refine ac ?_ | refine ae ?_ | with_reducible refine Later.mk ?_); simp only [evD, evL, iteL, aX, St.said, St.asked, evStep, evOp, evP, St.init, St.app, srcStep, kill, setMany, loadS, fieldS, buildS, toks, Fin, upd_app, Array.isEmpty, reduceLT, reduceAdd, reduceMul, reduceLeDiff, reduceSub, reduceEqDiff, reduceCtorEq, reduceIte, ↓Opt.is, ↓Opt.no, ↓Asks.yes, ↓Asks.no, tyL, encL, getI h, h3, hgq, hgw, z1, z2, z3, Int.toNat_natCast, if_true, List.length_map, e2, asB]))
     refine ⟨_, hsub, ?_⟩; (repeat (first | refine ap (by rfl : apartB 0 _ _ = true) ?_ | refine ap (by simp [osL, D.flat]) ?_)); repeat (first | refine aq ?_ | refine ap (by rfl : apartB 0 _ _ = true) ?_ | refine ak ?_ | refine ab ?_ | refine al ?_ | ((first | refine ar ?_ | refine ad ty_mix (by kernel_rfl) ?_ | refine ac ?_ | refine ae ?_ | with_reducible refine Later.mk ?_); simp only [evD, evL, iteL, aX, St.said, St.asked, evStep, evOp, evP, St.init, St.app, srcStep, kill, setMany, loadS, fieldS, buildS, toks, Fin, upd_app, Array.isEmpty, reduceLT, reduceAdd, reduceMul, reduceLeDiff, reduceSub, reduceEqDiff, reduceCtorEq, reduceIte, ↓Opt.is, ↓Opt.no, ↓Asks.yes, ↓Asks.no, tyL, encL, asB]))
     refine Ab.ret ?_; simp only [evD, evL, iteL, aX, St.said, St.asked, evStep, evOp, evP, St.init, St.app, srcStep, kill, setMany, loadS, fieldS, buildS, toks, Fin, upd_app, Array.isEmpty, reduceLT, reduceAdd, reduceMul, reduceLeDiff, reduceSub, reduceEqDiff, reduceCtorEq, reduceIte, ↓Opt.is, ↓Opt.no, ↓Asks.yes, ↓Asks.no, tyL, List.nodup_cons, encL, Tryz.f99]
   · rw [decide_eq_false (fun e => by rw [hd.1 e] at c1; cases c1)] at hsub
     rw [c1] at hst
     repeat (first | refine aq ?_ | refine ap (by rfl : apartB 0 _ _ = true) ?_ | refine ak ?_ | refine ab ?_ | refine al ?_ | ((first | refine ar ?_ | refine ad ty_mix (by kernel_rfl) ?_ | refine ac ?_ | refine ae ?_ | with_reducible refine Later.mk ?_); simp only [evD, evL, iteL, aX, St.said, St.asked, evStep, evOp, evP, St.init, St.app, srcStep, kill, setMany, loadS, fieldS, buildS, toks, Fin, upd_app, Array.isEmpty, reduceLT, reduceAdd, reduceMul, reduceLeDiff, reduceSub, reduceEqDiff, reduceCtorEq, reduceIte, ↓Opt.is, ↓Opt.no, ↓Asks.yes, ↓Asks.no, tyL, encL, getI h, h3, hgq, hgw, z1, z2, z3, Int.toNat_natCast, if_true, List.length_map, e2, asB]))
     refine ⟨_, hsub, ?_⟩; (repeat (first | refine ap (by rfl : apartB 0 _ _ = true) ?_ | refine ap (by simp [osL, D.flat]) ?_)); repeat (first | refine aq ?_ | refine ap (by rfl : apartB 0 _ _ = true) ?_ | refine ak ?_ | refine ab ?_ | refine al ?_ | ((first | refine ar ?_ | refine ad ty_mix (by kernel_rfl) ?_ | refine ac ?_ | refine ae ?_ | with_reducible refine Later.mk ?_); simp only [evD, evL, iteL, aX, St.said, St.asked, evStep, evOp, evP, St.init, St.app, srcStep, kill, setMany, loadS, fieldS, buildS, toks, Fin, upd_app, Array.isEmpty, reduceLT, reduceAdd, reduceMul, reduceLeDiff, reduceSub, reduceEqDiff, reduceCtorEq, reduceIte, ↓Opt.is, ↓Opt.no, ↓Asks.yes, ↓Asks.no, tyL, encL, hw, asB]))
     refine ⟨h, hst, ?_⟩
     ((first | refine Le.mk rfl ?_ ?_ | refine LeTo.mk rfl ?_ ?_) <;> simp only [evD, evL, iteL, aX, St.said, St.asked, evStep, evOp, evP, St.init, St.app, srcStep, kill, setMany, loadS, fieldS, buildS, toks, Fin, upd_app, Array.isEmpty, reduceLT, reduceAdd, reduceMul, reduceLeDiff, reduceSub, reduceEqDiff, reduceCtorEq, reduceIte, ↓Opt.is, ↓Opt.no, ↓Asks.yes, ↓Asks.no, tyL, encL, leL, leD, ne_eq])
 · have h : i = E.length := by have := of_decide_eq_false h; omega
   subst h
   rw [List.take_length] at hA
   repeat (first | refine aq ?_ | refine ap (by rfl : apartB 0 _ _ = true) ?_ | refine ak ?_ | refine ab ?_ | refine al ?_ | ((first | refine ar ?_ | refine ad ty_mix (by kernel_rfl) ?_ | refine ac ?_ | refine ae ?_ | with_reducible refine Later.mk ?_); simp only [evD, evL, iteL, aX, St.said, St.asked, evStep, evOp, evP, St.init, St.app, srcStep, kill, setMany, loadS, fieldS, buildS, toks, Fin, upd_app, Array.isEmpty, reduceLT, reduceAdd, reduceMul, reduceLeDiff, reduceSub, reduceEqDiff, reduceCtorEq, reduceIte, ↓Opt.is, ↓Opt.no, ↓Asks.yes, ↓Asks.no, tyL, encL, asB]))
   refine Ab.ret ?_; simp only [evD, evL, iteL, aX, St.said, St.asked, evStep, evOp, evP, St.init, St.app, srcStep, kill, setMany, loadS, fieldS, buildS, toks, Fin, upd_app, Array.isEmpty, reduceLT, reduceAdd, reduceMul, reduceLeDiff, reduceSub, reduceEqDiff, reduceCtorEq, reduceIte, ↓Opt.is, ↓Opt.no, ↓Asks.yes, ↓Asks.no, tyL, List.nodup_cons, encL, Tryz.f99, hA]
theorem implIsParetoOptimal_a {n : Int} {l p : List Edg} {s : List Int} (gE : (eSlice eEdg).good l) (gP : (eSlice eEdg).good p) (gI : (eSlice eInt).good s) (hl : l.length ≤ 1048576) (hp : p.length ≤ 1048576) (hs : s.length ≤ 1048576) : AC Tryz.prog 67 [.d (.v (.int .i64 n)), .d (encEs l), .d (encEs p), .d (encIs s)] (.d (.v (.bool (parOk n l p s)))) := by
 have hc := newPref_a (n := n) gE gP hl hp
 have hc2 := implIsMaximalIndependent_a (n := n) gE gI hl hs
 unfold parOk
 rcases Bool.eq_false_or_eq_true (prfOk n l p) with hd | hd
 · rcases Bool.eq_false_or_eq_true (maxI n l s) with hd2 | hd2
   · obtain ⟨h1, h2, m, rfl, hm, hok, hoP⟩ := prf_ok hd
     have hd3 := hd2
     unfold maxI at hd3
     rw [Bool.and_eq_true] at hd3
     obtain ⟨_, _, _, m', e, _, _, hin⟩ := ex_facts hd3.1
     have e : m' = m := by omega
     subst e
     have hc3 := bitSetOf_a s hs (hin.in64 (by omega))
     have hc4 := isPareto_a hm hok hoP hin
     rw [hd2] at hc2
     rw [hd] at hc
     unfold prG at hc
     rw [h1, h2, Bool.and_self, if_pos rfl, Int.toNat_natCast] at hc
     rw [hd, hd2, Bool.true_and, Bool.true_and, Int.toNat_natCast]
     refine AC.intro Tryz.func67 rfl (by decide) (by simp [S.res, S.ress]) (by simp [S.os, S.oss]) (by simp [S.wfs, S.wf, dbS]) (by simp [Tryz.f67]) ?_; rw [Tryz.ntmps67]
     repeat (first | refine aq ?_ | refine ap (by rfl : apartB 0 _ _ = true) ?_ | refine ak ?_ | refine ab ?_ | refine al ?_ | ((first | refine ar ?_ | refine ad ty_mix (by kernel_rfl) ?_ | refine ac ?_ | refine ae ?_ | with_reducible refine Later.mk ?_); simp only [evD, evL, iteL, aX, St.said, St.asked, evStep, evOp, evP, St.init, St.app, srcStep, kill, setMany, loadS, fieldS, buildS, toks, Fin, upd_app, Array.isEmpty, reduceLT, reduceAdd, reduceMul, reduceLeDiff, reduceSub, reduceEqDiff, reduceCtorEq, reduceIte, ↓Opt.is, ↓Opt.no, ↓Asks.yes, ↓Asks.no, tyL, encL, asB]))
     refine ⟨_, hc, ?_⟩; (repeat (first | refine ap (by rfl : apartB 0 _ _ = true) ?_ | refine ap (by simp [osL, D.flat]) ?_)); repeat (first | refine aq ?_ | refine ap (by rfl : apartB 0 _ _ = true) ?_ | refine ak ?_ | refine ab ?_ | refine al ?_ | ((first | refine ar ?_ | refine ad ty_mix (by kernel_rfl) ?_ | refine ac ?_ | refine ae ?_ | with_reducible refine Later.mk ?_); simp only [evD, evL, iteL, aX, St.said, St.asked, evStep, evOp, evP, St.init, St.app, srcStep, kill, setMany, loadS, fieldS, buildS, toks, Fin, upd_app, Array.isEmpty, reduceLT, reduceAdd, reduceMul, reduceLeDiff, reduceSub, reduceEqDiff, reduceCtorEq, reduceIte, ↓Opt.is, ↓Opt.no, ↓Asks.yes, ↓Asks.no, tyL, encL, asB]))
     refine ⟨_, hc2, ?_⟩; (repeat (first | refine ap (by rfl : apartB 0 _ _ = true) ?_ | refine ap (by simp [osL, D.flat]) ?_)); repeat (first | refine aq ?_ | refine ap (by rfl : apartB 0 _ _ = true) ?_ | refine ak ?_ | refine ab ?_ | refine al ?_ | ((first | refine ar ?_ | refine ad ty_mix (by kernel_rfl) ?_ | refine ac ?_ | refine ae ?_ | with_reducible refine Later.mk ?_); simp only [evD, evL, iteL, aX, St.said, St.asked, evStep, evOp, evP, St.init, St.app, srcStep, kill, setMany, loadS, fieldS, buildS, toks, Fin, upd_app, Array.isEmpty, reduceLT, reduceAdd, reduceMul, reduceLeDiff, reduceSub, reduceEqDiff, reduceCtorEq, reduceIte, ↓Opt.is, ↓Opt.no, ↓Asks.yes, ↓Asks.no, tyL, encL, asB]))
     refine ⟨_, hc3, ?_⟩; (repeat (first | refine ap (by rfl : apartB 0 _ _ = true) ?_ | refine ap (by simp [osL, D.flat]) ?_)); repeat (first | refine aq ?_ | refine ap (by rfl : apartB 0 _ _ = true) ?_ | refine ak ?_ | refine ab ?_ | refine al ?_ | ((first | refine ar ?_ | refine ad ty_mix (by kernel_rfl) ?_ | refine ac ?_ | refine ae ?_ | with_reducible refine Later.mk ?_); simp only [evD, evL, iteL, aX, St.said, St.asked, evStep, evOp, evP, St.init, St.app, srcStep, kill, setMany, loadS, fieldS, buildS, toks, Fin, upd_app, Array.isEmpty, reduceLT, reduceAdd, reduceMul, reduceLeDiff, reduceSub, reduceEqDiff, reduceCtorEq, reduceIte, ↓Opt.is, ↓Opt.no, ↓Asks.yes, ↓Asks.no, tyL, encL, asB]))
     refine ⟨_, hc4, ?_⟩; (repeat (first | refine ap (by rfl : apartB 0 _ _ = true) ?_ | refine ap (by simp [osL, D.flat]) ?_)); repeat (first | refine aq ?_ | refine ap (by rfl : apartB 0 _ _ = true) ?_ | refine ak ?_ | refine ab ?_ | refine al ?_ | ((first | refine ar ?_ | refine ad ty_mix (by kernel_rfl) ?_ | refine ac ?_ | refine ae ?_ | with_reducible refine Later.mk ?_); simp only [evD, evL, iteL, aX, St.said, St.asked, evStep, evOp, evP, St.init, St.app, srcStep, kill, setMany, loadS, fieldS, buildS, toks, Fin, upd_app, Array.isEmpty, reduceLT, reduceAdd, reduceMul, reduceLeDiff, reduceSub, reduceEqDiff, reduceCtorEq, reduceIte, ↓Opt.is, ↓Opt.no, ↓Asks.yes, ↓Asks.no, tyL, encL, asB]))
     refine Ab.ret ?_; simp only [evD, evL, iteL, aX, St.said, St.asked, evStep, evOp, evP, St.init, St.app, srcStep, kill, setMany, loadS, fieldS, buildS, toks, Fin, upd_app, Array.isEmpty, reduceLT, reduceAdd, reduceMul, reduceLeDiff, reduceSub, reduceEqDiff, reduceCtorEq, reduceIte, ↓Opt.is, ↓Opt.no, ↓Asks.yes, ↓Asks.no, tyL, List.nodup_cons, encL, Tryz.f67]
   · rw [hd2] at hc2
     rw [hd] at hc
     rw [hd, hd2, Bool.false_and, Bool.and_false]
     generalize prG n l p = A at *
     refine AC.intro Tryz.func67 rfl (by decide) (by simp [S.res, S.ress]) (by simp [S.os, S.oss]) (by simp [S.wfs, S.wf, dbS]) (by simp [Tryz.f67]) ?_; rw [Tryz.ntmps67]
     repeat (first | refine aq ?_ | refine ap (by rfl : apartB 0 _ _ = true) ?_ | refine ak ?_ | refine ab ?_ | refine al ?_ | ((first | refine ar ?_ | refine ad ty_mix (by kernel_rfl) ?_ | refine ac ?_ | refine ae ?_ | with_reducible refine Later.mk ?_); simp only [evD, evL, iteL, aX, St.said, St.asked, evStep, evOp, evP, St.init, St.app, srcStep, kill, setMany, loadS, fieldS, buildS, toks, Fin, upd_app, Array.isEmpty, reduceLT, reduceAdd, reduceMul, reduceLeDiff, reduceSub, reduceEqDiff, reduceCtorEq, reduceIte, ↓Opt.is, ↓Opt.no, ↓Asks.yes, ↓Asks.no, tyL, encL, asB]))
     refine ⟨_, hc, ?_⟩; (repeat (first | refine ap (by rfl : apartB 0 _ _ = true) ?_ | refine ap (by simp [osL, D.flat]) ?_)); repeat (first | refine aq ?_ | refine ap (by rfl : apartB 0 _ _ = true) ?_ | refine ak ?_ | refine ab ?_ | refine al ?_ | ((first | refine ar ?_ | refine ad ty_mix (by kernel_rfl) ?_ | refine ac ?_ | refine ae ?_ | with_reducible refine Later.mk ?_); simp only [evD, evL, iteL, aX, St.said, St.asked, evStep, evOp, evP, St.init, St.app, srcStep, kill, setMany, loadS, fieldS, buildS, toks, Fin, upd_app, Array.isEmpty, reduceLT, reduceAdd, reduceMul, reduceLeDiff, reduceSub, reduceEqDiff, reduceCtorEq, reduceIte, ↓Opt.is, ↓Opt.no, ↓Asks.yes, ↓Asks.no, tyL, encL, asB]))
     refine ⟨_, hc2, ?_⟩; (repeat (first | refine ap (by rfl : apartB 0 _ _ = true) ?_ | refine ap (by simp [osL, D.flat]) ?_)); repeat (first | refine aq ?_ | refine ap (by rfl : apartB 0 _ _ = true) ?_ | refine ak ?_ | refine ab ?_ | refine al ?_ | ((first | refine ar ?_ | refine ad ty_mix (by kernel_rfl) ?_ | refine ac ?_ | refine ae ?_ | with_reducible refine Later.mk ?_); simp only [evD, evL, iteL, aX, St.said, St.asked, evStep, evOp, evP, St.init, St.app, srcStep, kill, setMany, loadS, fieldS, buildS, toks, Fin, upd_app, Array.isEmpty, reduceLT, reduceAdd, reduceMul, reduceLeDiff, reduceSub, reduceEqDiff, reduceCtorEq, reduceIte, ↓Opt.is, ↓Opt.no, ↓Asks.yes, ↓Asks.no, tyL, encL, asB]))
     refine Ab.ret ?_; simp only [evD, evL, iteL, aX, St.said, St.asked, evStep, evOp, evP, St.init, St.app, srcStep, kill, setMany, loadS, fieldS, buildS, toks, Fin, upd_app, Array.isEmpty, reduceLT, reduceAdd, reduceMul, reduceLeDiff, reduceSub, reduceEqDiff, reduceCtorEq, reduceIte, ↓Opt.is, ↓Opt.no, ↓Asks.yes, ↓Asks.no, tyL, List.nodup_cons, encL, Tryz.f67]
 · rw [hd] at hc
   rw [hd, Bool.false_and]
   generalize prG n l p = A at *
   refine AC.intro Tryz.func67 rfl (by decide) (by simp [S.res, S.ress]) (by simp [S.os, S.oss]) (by simp [S.wfs, S.wf, dbS]) (by simp [Tryz.f67]) ?_; rw [Tryz.ntmps67]
   repeat (first | refine aq ?_ | refine ap (by rfl : apartB 0 _ _ = true) ?_ | refine ak ?_ | refine ab ?_ | refine al ?_ | ((first | refine ar ?_ | refine ad ty_mix (by kernel_rfl) ?_ | refine ac ?_ | refine ae ?_ | with_reducible refine Later.mk ?_); simp only [evD, evL, iteL, aX, St.said, St.asked, evStep, evOp, evP, St.init, St.app, srcStep, kill, setMany, loadS, fieldS, buildS, toks, Fin, upd_app, Array.isEmpty, reduceLT, reduceAdd, reduceMul, reduceLeDiff, reduceSub, reduceEqDiff, reduceCtorEq, reduceIte, ↓Opt.is, ↓Opt.no, ↓Asks.yes, ↓Asks.no, tyL, encL, asB]))
   refine ⟨_, hc, ?_⟩; (repeat (first | refine ap (by rfl : apartB 0 _ _ = true) ?_ | refine ap (by simp [osL, D.flat]) ?_)); repeat (first | refine aq ?_ | refine ap (by rfl : apartB 0 _ _ = true) ?_ | refine ak ?_ | refine ab ?_ | refine al ?_ | ((first | refine ar ?_ | refine ad ty_mix (by kernel_rfl) ?_ | refine ac ?_ | refine ae ?_ | with_reducible refine Later.mk ?_); simp only [evD, evL, iteL, aX, St.said, St.asked, evStep, evOp, evP, St.init, St.app, srcStep, kill, setMany, loadS, fieldS, buildS, toks, Fin, upd_app, Array.isEmpty, reduceLT, reduceAdd, reduceMul, reduceLeDiff, reduceSub, reduceEqDiff, reduceCtorEq, reduceIte, ↓Opt.is, ↓Opt.no, ↓Asks.yes, ↓Asks.no, tyL, encL, asB]))
   refine Ab.ret ?_; simp only [evD, evL, iteL, aX, St.said, St.asked, evStep, evOp, evP, St.init, St.app, srcStep, kill, setMany, loadS, fieldS, buildS, toks, Fin, upd_app, Array.isEmpty, reduceLT, reduceAdd, reduceMul, reduceLeDiff, reduceSub, reduceEqDiff, reduceCtorEq, reduceIte, ↓Opt.is, ↓Opt.no, ↓Asks.yes, ↓Asks.no, tyL, List.nodup_cons, encL, Tryz.f67]
theorem specIsParetoOptimal_a {n : Int} {l p : List Edg} {s : List Int} (gE : (eSlice eEdg).good l) (gP : (eSlice eEdg).good p) (gI : (eSlice eInt).good s) (hl : l.length ≤ 1048576) (hp : p.length ≤ 1048576) (hs : s.length ≤ 1048576) : AC Tryz.prog 62 [.d (.v (.int .i64 n)), .d (encEs l), .d (encEs p), .d (encIs s)] (.d (.v (.bool (parOk n l p s)))) := by
 have hc := specIsValidPreference_a (n := n) gE gP hl hp
 have hc2 := specIsMaximalIndependent_a (n := n) gE gI hl hs
 unfold parOk
 rcases Bool.eq_false_or_eq_true (prfOk n l p) with hd | hd
 · rcases Bool.eq_false_or_eq_true (maxI n l s) with hd2 | hd2
   · obtain ⟨h1, h2, m, rfl, hm, hok, hoP⟩ := prf_ok hd
     rw [hd2] at hc2
     rw [hd] at hc
     rw [hd, hd2, Bool.true_and, Bool.true_and, Int.toNat_natCast]
     refine AC.intro Tryz.func62 rfl (by decide) (by simp [S.res, S.ress]) (by simp [S.os, S.oss]) (by simp [S.wfs, S.wf, dbS]) (by simp [Tryz.f62]) ?_; rw [Tryz.ntmps62]
     repeat (first | refine aq ?_ | refine ap (by rfl : apartB 0 _ _ = true) ?_ | refine ak ?_ | refine ab ?_ | refine al ?_ | ((first | refine ar ?_ | refine ad ty_mix (by kernel_rfl) ?_ | refine ac ?_ | refine ae ?_ | with_reducible refine Later.mk ?_); simp only [evD, evL, iteL, aX, St.said, St.asked, evStep, evOp, evP, St.init, St.app, srcStep, kill, setMany, loadS, fieldS, buildS, toks, Fin, upd_app, Array.isEmpty, reduceLT, reduceAdd, reduceMul, reduceLeDiff, reduceSub, reduceEqDiff, reduceCtorEq, reduceIte, ↓Opt.is, ↓Opt.no, ↓Asks.yes, ↓Asks.no, tyL, encL, asB]))
     refine ⟨_, hc, ?_⟩; (repeat (first | refine ap (by rfl : apartB 0 _ _ = true) ?_ | refine ap (by simp [osL, D.flat]) ?_)); repeat (first | refine aq ?_ | refine ap (by rfl : apartB 0 _ _ = true) ?_ | refine ak ?_ | refine ab ?_ | refine al ?_ | ((first | refine ar ?_ | refine ad ty_mix (by kernel_rfl) ?_ | refine ac ?_ | refine ae ?_ | with_reducible refine Later.mk ?_); simp only [evD, evL, iteL, aX, St.said, St.asked, evStep, evOp, evP, St.init, St.app, srcStep, kill, setMany, loadS, fieldS, buildS, toks, Fin, upd_app, Array.isEmpty, reduceLT, reduceAdd, reduceMul, reduceLeDiff, reduceSub, reduceEqDiff, reduceCtorEq, reduceIte, ↓Opt.is, ↓Opt.no, ↓Asks.yes, ↓Asks.no, tyL, encL, asB]))
     refine ⟨_, hc2, ?_⟩; (repeat (first | refine ap (by rfl : apartB 0 _ _ = true) ?_ | refine ap (by simp [osL, D.flat]) ?_)); repeat (first | refine aq ?_ | refine ap (by rfl : apartB 0 _ _ = true) ?_ | refine ak ?_ | refine ab ?_ | refine al ?_ | ((first | refine ar ?_ | refine ad ty_mix (by kernel_rfl) ?_ | refine ac ?_ | refine ae ?_ | with_reducible refine Later.mk ?_); simp only [evD, evL, iteL, aX, St.said, St.asked, evStep, evOp, evP, St.init, St.app, srcStep, kill, setMany, loadS, fieldS, buildS, toks, Fin, upd_app, Array.isEmpty, reduceLT, reduceAdd, reduceMul, reduceLeDiff, reduceSub, reduceEqDiff, reduceCtorEq, reduceIte, ↓Opt.is, ↓Opt.no, ↓Asks.yes, ↓Asks.no, tyL, encL, asB]))
     have hok2 := hok
     have hsn : s.length ≤ 14 := by
       have hd3 := hd2
       unfold maxI exOk at hd3
       simp only [Bool.and_eq_true] at hd3
       have := setIx_len hd3.1.2.1
       omega
     have hI := gI.2
     refine Ab.loopI m (fun x => ((List.range x).all fun x => s.contains (x : Int) || !domL l p s (x : Int)) = true) (fun x => mkS 59 [(0, .d (.v (.int .i64 (m : Int)))), (1, .d (.sl (List.map encE l))), (2, .d (.sl (List.map encE p))), (3, .d (.sl (List.map encI s))), (9, .d (.v (.int .i64 (x : Int))))] [] 224) rfl ?_ ?_
     · ((first | refine Le.mk rfl ?_ ?_ | refine LeTo.mk rfl ?_ ?_) <;> simp only [evD, evL, iteL, aX, St.said, St.asked, evStep, evOp, evP, St.init, St.app, srcStep, kill, setMany, loadS, fieldS, buildS, toks, Fin, upd_app, Array.isEmpty, reduceLT, reduceAdd, reduceMul, reduceLeDiff, reduceSub, reduceEqDiff, reduceCtorEq, reduceIte, ↓Opt.is, ↓Opt.no, ↓Asks.yes, ↓Asks.no, tyL, encL, leL, leD, ne_eq])
     intro x hx hA
     repeat (first | refine aq ?_ | refine ap (by rfl : apartB 0 _ _ = true) ?_ | refine ak ?_ | refine ab ?_ | refine al ?_ | ((first | refine ar ?_ | refine ad ty_mix (by kernel_rfl) ?_ | refine ac ?_ | refine ae ?_ | with_reducible refine Later.mk ?_); simp only [evD, evL, iteL, aX, St.said, St.asked, evStep, evOp, evP, St.init, St.app, srcStep, kill, setMany, loadS, fieldS, buildS, toks, Fin, upd_app, Array.isEmpty, reduceLT, reduceAdd, reduceMul, reduceLeDiff, reduceSub, reduceEqDiff, reduceCtorEq, reduceIte, ↓Opt.is, ↓Opt.no, ↓Asks.yes, ↓Asks.no, tyL, encL, mkS, updl, asB]))
     refine ⟨fun h => ?_, fun h => ?_⟩
     · have h : x < m := by simpa using h
       have hw := wrapN h (by omega)
       have hc3 := l7Has_a (x := (x : Int)) gI
       have hst : ((List.range (x + 1)).all fun x => s.contains (x : Int) || !domL l p s (x : Int)) = (s.contains (x : Int) || !domL l p s (x : Int)) := by
         rw [List.range_succ, List.all_append, hA, Bool.true_and, List.all_cons, List.all_nil, Bool.and_true]
       rcases Bool.eq_false_or_eq_true (s.contains (x : Int)) with c1 | c1
       · rw [c1] at hc3
         rw [c1, Bool.true_or] at hst
         repeat (first | refine aq ?_ | refine ap (by rfl : apartB 0 _ _ = true) ?_ | refine ak ?_ | refine ab ?_ | refine al ?_ | ((first | refine ar ?_ | refine ad ty_mix (by kernel_rfl) ?_ | refine ac ?_ | refine ae ?_ | with_reducible refine Later.mk ?_); simp only [evD, evL, iteL, aX, St.said, St.asked, evStep, evOp, evP, St.init, St.app, srcStep, kill, setMany, loadS, fieldS, buildS, toks, Fin, upd_app, Array.isEmpty, reduceLT, reduceAdd, reduceMul, reduceLeDiff, reduceSub, reduceEqDiff, reduceCtorEq, reduceIte, ↓Opt.is, ↓Opt.no, ↓Asks.yes, ↓Asks.no, tyL, encL, asB]))
         refine ⟨_, hc3, ?_⟩; (repeat (first | refine ap (by rfl : apartB 0 _ _ = true) ?_ | refine ap (by simp [osL, D.flat]) ?_)); repeat (first | refine aq ?_ | refine ap (by rfl : apartB 0 _ _ = true) ?_ | refine ak ?_ | refine ab ?_ | refine al ?_ | ((first | refine ar ?_ | refine ad ty_mix (by kernel_rfl) ?_ | refine ac ?_ | refine ae ?_ | with_reducible refine Later.mk ?_); simp only [evD, evL, iteL, aX, St.said, St.asked, evStep, evOp, evP, St.init, St.app, srcStep, kill, setMany, loadS, fieldS, buildS, toks, Fin, upd_app, Array.isEmpty, reduceLT, reduceAdd, reduceMul, reduceLeDiff, reduceSub, reduceEqDiff, reduceCtorEq, reduceIte, ↓Opt.is, ↓Opt.no, ↓Asks.yes, ↓Asks.no, tyL, encL, hw, asB]))
         refine ⟨h, hst, ?_⟩
         ((first | refine Le.mk rfl ?_ ?_ | refine LeTo.mk rfl ?_ ?_) <;> simp only [evD, evL, iteL, aX, St.said, St.asked, evStep, evOp, evP, St.init, St.app, srcStep, kill, setMany, loadS, fieldS, buildS, toks, Fin, upd_app, Array.isEmpty, reduceLT, reduceAdd, reduceMul, reduceLeDiff, reduceSub, reduceEqDiff, reduceCtorEq, reduceIte, ↓Opt.is, ↓Opt.no, ↓Asks.yes, ↓Asks.no, tyL, encL, leL, leD, ne_eq])
       · rw [c1] at hc3
         rw [c1, Bool.false_or] at hst
         repeat (first | refine aq ?_ | refine ap (by rfl : apartB 0 _ _ = true) ?_ | refine ak ?_ | refine ab ?_ | refine al ?_ | ((first | refine ar ?_ | refine ad ty_mix (by kernel_rfl) ?_ | refine ac ?_ | refine ae ?_ | with_reducible refine Later.mk ?_); simp only [evD, evL, iteL, aX, St.said, St.asked, evStep, evOp, evP, St.init, St.app, srcStep, kill, setMany, loadS, fieldS, buildS, toks, Fin, upd_app, Array.isEmpty, reduceLT, reduceAdd, reduceMul, reduceLeDiff, reduceSub, reduceEqDiff, reduceCtorEq, reduceIte, ↓Opt.is, ↓Opt.no, ↓Asks.yes, ↓Asks.no, tyL, encL, asB]))
         refine ⟨_, hc3, ?_⟩; (repeat (first | refine ap (by rfl : apartB 0 _ _ = true) ?_ | refine ap (by simp [osL, D.flat]) ?_)); repeat (first | refine aq ?_ | refine ap (by rfl : apartB 0 _ _ = true) ?_ | refine ak ?_ | refine ab ?_ | refine al ?_ | ((first | refine ar ?_ | refine ad ty_mix (by kernel_rfl) ?_ | refine ac ?_ | refine ae ?_ | with_reducible refine Later.mk ?_); simp only [evD, evL, iteL, aX, St.said, St.asked, evStep, evOp, evP, St.init, St.app, srcStep, kill, setMany, loadS, fieldS, buildS, toks, Fin, upd_app, Array.isEmpty, reduceLT, reduceAdd, reduceMul, reduceLeDiff, reduceSub, reduceEqDiff, reduceCtorEq, reduceIte, ↓Opt.is, ↓Opt.no, ↓Asks.yes, ↓Asks.no, tyL, encL, asB]))
         refine Ab.loopI s.length (fun _ => True) (fun i => mkS 59 [(0, .d (.v (.int .i64 (m : Int)))), (1, .d (.sl (List.map encE l))), (2, .d (.sl (List.map encE p))), (3, .d (.sl (List.map encI s))), (9, .d (.v (.int .i64 (x : Int)))), (10, .d (.v (.bool ((s.take i).all fun y => !edgeP l (x : Int) y || isPr p (x : Int) y)))), (11, .d (.v (.int .i64 (i : Int))))] [] 288) trivial ?_ ?_
         · ((first | refine Le.mk rfl ?_ ?_ | refine LeTo.mk rfl ?_ ?_) <;> simp only [evD, evL, iteL, aX, St.said, St.asked, evStep, evOp, evP, St.init, St.app, srcStep, kill, setMany, loadS, fieldS, buildS, toks, Fin, upd_app, Array.isEmpty, reduceLT, reduceAdd, reduceMul, reduceLeDiff, reduceSub, reduceEqDiff, reduceCtorEq, reduceIte, ↓Opt.is, ↓Opt.no, ↓Asks.yes, ↓Asks.no, tyL, encL, leL, leD, ne_eq, List.take_zero, List.all_nil])
         intro i hi _
         repeat (first | refine aq ?_ | refine ap (by rfl : apartB 0 _ _ = true) ?_ | refine ak ?_ | refine ab ?_ | refine al ?_ | ((first | refine ar ?_ | refine ad ty_mix (by kernel_rfl) ?_ | refine ac ?_ | refine ae ?_ | with_reducible refine Later.mk ?_); simp only [evD, evL, iteL, aX, St.said, St.asked, evStep, evOp, evP, St.init, St.app, srcStep, kill, setMany, loadS, fieldS, buildS, toks, Fin, upd_app, Array.isEmpty, reduceLT, reduceAdd, reduceMul, reduceLeDiff, reduceSub, reduceEqDiff, reduceCtorEq, reduceIte, ↓Opt.is, ↓Opt.no, ↓Asks.yes, ↓Asks.no, tyL, encL, mkS, updl, asB]))
         refine ⟨fun h2 => ?_, fun h2 => ?_⟩
         · have h2 : i < s.length := by simpa using h2
           have hw2 := wrapN h2 (by omega)
           have hst2 := all_snoc s (fun y => !edgeP l (x : Int) y || isPr p (x : Int) y) h2
           have hce := l28Edge_a gE (x : Int) s[i] hl
           have hcp := isPreferred_a gP (x : Int) s[i] hp
           have z3 : ∀ x : Nat, (0 ≤ (x : Int)) = True := fun x => eq_true (by omega)
           rcases Bool.eq_false_or_eq_true ((s.take i).all fun y => !edgeP l (x : Int) y || isPr p (x : Int) y) with c2 | c2 <;> rw [c2] at hst2 ⊢
           · rw [Bool.true_and] at hst2
             rcases Bool.eq_false_or_eq_true (edgeP l (x : Int) s[i]) with c3 | c3 <;> rw [c3] at hst2 hce
             · simp only [Bool.not_true, Bool.false_or] at hst2
               repeat (first | refine aq ?_ | refine ap (by rfl : apartB 0 _ _ = true) ?_ | refine ak ?_ | refine ab ?_ | refine al ?_ | ((first | refine ar ?_ | refine ad ty_mix (by kernel_rfl) ?_ | refine ac ?_ | refine ae ?_ | with_reducible refine Later.mk ?_); simp only [evD, evL, iteL, aX, St.said, St.asked, evStep, evOp, evP, St.init, St.app, srcStep, kill, setMany, loadS, fieldS, buildS, toks, Fin, upd_app, Array.isEmpty, reduceLT, reduceAdd, reduceMul, reduceLeDiff, reduceSub, reduceEqDiff, reduceCtorEq, reduceIte, ↓Opt.is, ↓Opt.no, ↓Asks.yes, ↓Asks.no, tyL, encL, getI h2, z3, asB]))
               refine ⟨_, hce, ?_⟩; (repeat (first | refine ap (by rfl : apartB 0 _ _ = true) ?_ | refine ap (by simp [osL, D.flat]) ?_)); repeat (first | refine aq ?_ | refine ap (by rfl : apartB 0 _ _ = true) ?_ | refine ak ?_ | refine ab ?_ | refine al ?_ | ((first | refine ar ?_ | refine ad ty_mix (by kernel_rfl) ?_ | refine ac ?_ | refine ae ?_ | with_reducible refine Later.mk ?_); simp only [evD, evL, iteL, aX, St.said, St.asked, evStep, evOp, evP, St.init, St.app, srcStep, kill, setMany, loadS, fieldS, buildS, toks, Fin, upd_app, Array.isEmpty, reduceLT, reduceAdd, reduceMul, reduceLeDiff, reduceSub, reduceEqDiff, reduceCtorEq, reduceIte, ↓Opt.is, ↓Opt.no, ↓Asks.yes, ↓Asks.no, tyL, encL, getI h2, z3, asB]))
               refine ⟨_, hcp, ?_⟩; (repeat (first | refine ap (by rfl : apartB 0 _ _ = true) ?_ | refine ap (by simp [osL, D.flat]) ?_)); repeat (first | refine aq ?_ | refine ap (by rfl : apartB 0 _ _ = true) ?_ | refine ak ?_ | refine ab ?_ | refine al ?_ | ((first | refine ar ?_ | refine ad ty_mix (by kernel_rfl) ?_ | refine ac ?_ | refine ae ?_ | with_reducible refine Later.mk ?_); simp only [evD, evL, iteL, aX, St.said, St.asked, evStep, evOp, evP, St.init, St.app, srcStep, kill, setMany, loadS, fieldS, buildS, toks, Fin, upd_app, Array.isEmpty, reduceLT, reduceAdd, reduceMul, reduceLeDiff, reduceSub, reduceEqDiff, reduceCtorEq, reduceIte, ↓Opt.is, ↓Opt.no, ↓Asks.yes, ↓Asks.no, tyL, encL, getI h2, z3, hw2, asB]))
               refine ⟨h2, ?_⟩
               ((first | refine Le.mk rfl ?_ ?_ | refine LeTo.mk rfl ?_ ?_) <;> simp only [evD, evL, iteL, aX, St.said, St.asked, evStep, evOp, evP, St.init, St.app, srcStep, kill, setMany, loadS, fieldS, buildS, toks, Fin, upd_app, Array.isEmpty, reduceLT, reduceAdd, reduceMul, reduceLeDiff, reduceSub, reduceEqDiff, reduceCtorEq, reduceIte, ↓Opt.is, ↓Opt.no, ↓Asks.yes, ↓Asks.no, tyL, encL, leL, leD, ne_eq, hst2])
             · simp only [Bool.not_false, Bool.true_or] at hst2
               repeat (first | refine aq ?_ | refine ap (by rfl : apartB 0 _ _ = true) ?_ | refine ak ?_ | refine ab ?_ | refine al ?_ | ((first | refine ar ?_ | refine ad ty_mix (by kernel_rfl) ?_ | refine ac ?_ | refine ae ?_ | with_reducible refine Later.mk ?_); simp only [evD, evL, iteL, aX, St.said, St.asked, evStep, evOp, evP, St.init, St.app, srcStep, kill, setMany, loadS, fieldS, buildS, toks, Fin, upd_app, Array.isEmpty, reduceLT, reduceAdd, reduceMul, reduceLeDiff, reduceSub, reduceEqDiff, reduceCtorEq, reduceIte, ↓Opt.is, ↓Opt.no, ↓Asks.yes, ↓Asks.no, tyL, encL, getI h2, z3, asB]))
               refine ⟨_, hce, ?_⟩; (repeat (first | refine ap (by rfl : apartB 0 _ _ = true) ?_ | refine ap (by simp [osL, D.flat]) ?_)); repeat (first | refine aq ?_ | refine ap (by rfl : apartB 0 _ _ = true) ?_ | refine ak ?_ | refine ab ?_ | refine al ?_ | ((first | refine ar ?_ | refine ad ty_mix (by kernel_rfl) ?_ | refine ac ?_ | refine ae ?_ | with_reducible refine Later.mk ?_); simp only [evD, evL, iteL, aX, St.said, St.asked, evStep, evOp, evP, St.init, St.app, srcStep, kill, setMany, loadS, fieldS, buildS, toks, Fin, upd_app, Array.isEmpty, reduceLT, reduceAdd, reduceMul, reduceLeDiff, reduceSub, reduceEqDiff, reduceCtorEq, reduceIte, ↓Opt.is, ↓Opt.no, ↓Asks.yes, ↓Asks.no, tyL, encL, getI h2, z3, hw2, asB]))
               refine ⟨h2, ?_⟩
               ((first | refine Le.mk rfl ?_ ?_ | refine LeTo.mk rfl ?_ ?_) <;> simp only [evD, evL, iteL, aX, St.said, St.asked, evStep, evOp, evP, St.init, St.app, srcStep, kill, setMany, loadS, fieldS, buildS, toks, Fin, upd_app, Array.isEmpty, reduceLT, reduceAdd, reduceMul, reduceLeDiff, reduceSub, reduceEqDiff, reduceCtorEq, reduceIte, ↓Opt.is, ↓Opt.no, ↓Asks.yes, ↓Asks.no, tyL, encL, leL, leD, ne_eq, hst2])
           · rw [Bool.false_and] at hst2
             repeat (first | refine aq ?_ | refine ap (by rfl : apartB 0 _ _ = true) ?_ | refine ak ?_ | refine ab ?_ | refine al ?_ | ((first | refine ar ?_ | refine ad ty_mix (by kernel_rfl) ?_ | refine ac ?_ | refine ae ?_ | with_reducible refine Later.mk ?_); simp only [evD, evL, iteL, aX, St.said, St.asked, evStep, evOp, evP, St.init, St.app, srcStep, kill, setMany, loadS, fieldS, buildS, toks, Fin, upd_app, Array.isEmpty, reduceLT, reduceAdd, reduceMul, reduceLeDiff, reduceSub, reduceEqDiff, reduceCtorEq, reduceIte, ↓Opt.is, ↓Opt.no, ↓Asks.yes, ↓Asks.no, tyL, encL, hw2, asB]))
             refine ⟨h2, ?_⟩
             ((first | refine Le.mk rfl ?_ ?_ | refine LeTo.mk rfl ?_ ?_) <;> simp only [evD, evL, iteL, aX, St.said, St.asked, evStep, evOp, evP, St.init, St.app, srcStep, kill, setMany, loadS, fieldS, buildS, toks, Fin, upd_app, Array.isEmpty, reduceLT, reduceAdd, reduceMul, reduceLeDiff, reduceSub, reduceEqDiff, reduceCtorEq, reduceIte, ↓Opt.is, ↓Opt.no, ↓Asks.yes, ↓Asks.no, tyL, encL, leL, leD, ne_eq, hst2])
         · have h2 : i = s.length := by have := of_decide_eq_false h2; omega
           subst h2
           have hdm : (s.all fun y => !edgeP l (x : Int) y || isPr p (x : Int) y) = domL l p s (x : Int) := rfl
           rw [List.take_length, hdm]
           rcases Bool.eq_false_or_eq_true (domL l p s (x : Int)) with c2 | c2 <;> rw [c2] at hst ⊢
           · have hr : parL m l p s = false := by
               unfold parL
               exact List.all_eq_false.2 ⟨x, List.mem_range.2 h, by rw [c1, c2]; simp⟩
             rw [hr]
             repeat (first | refine aq ?_ | refine ap (by rfl : apartB 0 _ _ = true) ?_ | refine ak ?_ | refine ab ?_ | refine al ?_ | ((first | refine ar ?_ | refine ad ty_mix (by kernel_rfl) ?_ | refine ac ?_ | refine ae ?_ | with_reducible refine Later.mk ?_); simp only [evD, evL, iteL, aX, St.said, St.asked, evStep, evOp, evP, St.init, St.app, srcStep, kill, setMany, loadS, fieldS, buildS, toks, Fin, upd_app, Array.isEmpty, reduceLT, reduceAdd, reduceMul, reduceLeDiff, reduceSub, reduceEqDiff, reduceCtorEq, reduceIte, ↓Opt.is, ↓Opt.no, ↓Asks.yes, ↓Asks.no, tyL, encL, asB]))
             refine Ab.ret ?_; simp only [evD, evL, iteL, aX, St.said, St.asked, evStep, evOp, evP, St.init, St.app, srcStep, kill, setMany, loadS, fieldS, buildS, toks, Fin, upd_app, Array.isEmpty, reduceLT, reduceAdd, reduceMul, reduceLeDiff, reduceSub, reduceEqDiff, reduceCtorEq, reduceIte, ↓Opt.is, ↓Opt.no, ↓Asks.yes, ↓Asks.no, tyL, List.nodup_cons, encL, Tryz.f62]
           · repeat (first | refine aq ?_ | refine ap (by rfl : apartB 0 _ _ = true) ?_ | refine ak ?_ | refine ab ?_ | refine al ?_ | ((first | refine ar ?_ | refine ad ty_mix (by kernel_rfl) ?_ | refine ac ?_ | refine ae ?_ | with_reducible refine Later.mk ?_); simp only [evD, evL, iteL, aX, St.said, St.asked, evStep, evOp, evP, St.init, St.app, srcStep, kill, setMany, loadS, fieldS, buildS, toks, Fin, upd_app, Array.isEmpty, reduceLT, reduceAdd, reduceMul, reduceLeDiff, reduceSub, reduceEqDiff, reduceCtorEq, reduceIte, ↓Opt.is, ↓Opt.no, ↓Asks.yes, ↓Asks.no, tyL, encL, hw, asB]))
             refine ⟨h, hst, ?_⟩
             ((first | refine Le.mk rfl ?_ ?_ | refine LeTo.mk rfl ?_ ?_) <;> simp only [evD, evL, iteL, aX, St.said, St.asked, evStep, evOp, evP, St.init, St.app, srcStep, kill, setMany, loadS, fieldS, buildS, toks, Fin, upd_app, Array.isEmpty, reduceLT, reduceAdd, reduceMul, reduceLeDiff, reduceSub, reduceEqDiff, reduceCtorEq, reduceIte, ↓Opt.is, ↓Opt.no, ↓Asks.yes, ↓Asks.no, tyL, encL, leL, leD, ne_eq])
     · have h : x = m := by have := of_decide_eq_false h; omega
       subst h
       have hr : parL x l p s = true := hA
       rw [hr]
       repeat (first | refine aq ?_ | refine ap (by rfl : apartB 0 _ _ = true) ?_ | refine ak ?_ | refine ab ?_ | refine al ?_ | ((first | refine ar ?_ | refine ad ty_mix (by kernel_rfl) ?_ | refine ac ?_ | refine ae ?_ | with_reducible refine Later.mk ?_); simp only [evD, evL, iteL, aX, St.said, St.asked, evStep, evOp, evP, St.init, St.app, srcStep, kill, setMany, loadS, fieldS, buildS, toks, Fin, upd_app, Array.isEmpty, reduceLT, reduceAdd, reduceMul, reduceLeDiff, reduceSub, reduceEqDiff, reduceCtorEq, reduceIte, ↓Opt.is, ↓Opt.no, ↓Asks.yes, ↓Asks.no, tyL, encL, asB]))
       refine Ab.ret ?_; simp only [evD, evL, iteL, aX, St.said, St.asked, evStep, evOp, evP, St.init, St.app, srcStep, kill, setMany, loadS, fieldS, buildS, toks, Fin, upd_app, Array.isEmpty, reduceLT, reduceAdd, reduceMul, reduceLeDiff, reduceSub, reduceEqDiff, reduceCtorEq, reduceIte, ↓Opt.is, ↓Opt.no, ↓Asks.yes, ↓Asks.no, tyL, List.nodup_cons, encL, Tryz.f62]
   · rw [hd2] at hc2
     rw [hd] at hc
     rw [hd, hd2, Bool.false_and, Bool.and_false]
     refine AC.intro Tryz.func62 rfl (by decide) (by simp [S.res, S.ress]) (by simp [S.os, S.oss]) (by simp [S.wfs, S.wf, dbS]) (by simp [Tryz.f62]) ?_; rw [Tryz.ntmps62]
     repeat (first | refine aq ?_ | refine ap (by rfl : apartB 0 _ _ = true) ?_ | refine ak ?_ | refine ab ?_ | refine al ?_ | ((first | refine ar ?_ | refine ad ty_mix (by kernel_rfl) ?_ | refine ac ?_ | refine ae ?_ | with_reducible refine Later.mk ?_); simp only [evD, evL, iteL, aX, St.said, St.asked, evStep, evOp, evP, St.init, St.app, srcStep, kill, setMany, loadS, fieldS, buildS, toks, Fin, upd_app, Array.isEmpty, reduceLT, reduceAdd, reduceMul, reduceLeDiff, reduceSub, reduceEqDiff, reduceCtorEq, reduceIte, ↓Opt.is, ↓Opt.no, ↓Asks.yes, ↓Asks.no, tyL, encL, asB]))
     refine ⟨_, hc, ?_⟩; (repeat (first | refine ap (by rfl : apartB 0 _ _ = true) ?_ | refine ap (by simp [osL, D.flat]) ?_)); repeat (first | refine aq ?_ | refine ap (by rfl : apartB 0 _ _ = true) ?_ | refine ak ?_ | refine ab ?_ | refine al ?_ | ((first | refine ar ?_ | refine ad ty_mix (by kernel_rfl) ?_ | refine ac ?_ | refine ae ?_ | with_reducible refine Later.mk ?_); simp only [evD, evL, iteL, aX, St.said, St.asked, evStep, evOp, evP, St.init, St.app, srcStep, kill, setMany, loadS, fieldS, buildS, toks, Fin, upd_app, Array.isEmpty, reduceLT, reduceAdd, reduceMul, reduceLeDiff, reduceSub, reduceEqDiff, reduceCtorEq, reduceIte, ↓Opt.is, ↓Opt.no, ↓Asks.yes, ↓Asks.no, tyL, encL, asB]))
     refine ⟨_, hc2, ?_⟩; (repeat (first | refine ap (by rfl : apartB 0 _ _ = true) ?_ | refine ap (by simp [osL, D.flat]) ?_)); repeat (first | refine aq ?_ | refine ap (by rfl : apartB 0 _ _ = true) ?_ | refine ak ?_ | refine ab ?_ | refine al ?_ | ((first | refine ar ?_ | refine ad ty_mix (by kernel_rfl) ?_ | refine ac ?_ | refine ae ?_ | with_reducible refine Later.mk ?_); simp only [evD, evL, iteL, aX, St.said, St.asked, evStep, evOp, evP, St.init, St.app, srcStep, kill, setMany, loadS, fieldS, buildS, toks, Fin, upd_app, Array.isEmpty, reduceLT, reduceAdd, reduceMul, reduceLeDiff, reduceSub, reduceEqDiff, reduceCtorEq, reduceIte, ↓Opt.is, ↓Opt.no, ↓Asks.yes, ↓Asks.no, tyL, encL, asB]))
     refine Ab.ret ?_; simp only [evD, evL, iteL, aX, St.said, St.asked, evStep, evOp, evP, St.init, St.app, srcStep, kill, setMany, loadS, fieldS, buildS, toks, Fin, upd_app, Array.isEmpty, reduceLT, reduceAdd, reduceMul, reduceLeDiff, reduceSub, reduceEqDiff, reduceCtorEq, reduceIte, ↓Opt.is, ↓Opt.no, ↓Asks.yes, ↓Asks.no, tyL, List.nodup_cons, encL, Tryz.f62]
 · rw [hd] at hc
   rw [hd, Bool.false_and]
   refine AC.intro Tryz.func62 rfl (by decide) (by simp [S.res, S.ress]) (by simp [S.os, S.oss]) (by simp [S.wfs, S.wf, dbS]) (by simp [Tryz.f62]) ?_; rw [Tryz.ntmps62]
   repeat (first | refine aq ?_ | refine ap (by rfl : apartB 0 _ _ = true) ?_ | refine ak ?_ | refine ab ?_ | refine al ?_ | ((first | refine ar ?_ | refine ad ty_mix (by kernel_rfl) ?_ | refine ac ?_ | refine ae ?_ | with_reducible refine Later.mk ?_); simp only [evD, evL, iteL, aX, St.said, St.asked, evStep, evOp, evP, St.init, St.app, srcStep, kill, setMany, loadS, fieldS, buildS, toks, Fin, upd_app, Array.isEmpty, reduceLT, reduceAdd, reduceMul, reduceLeDiff, reduceSub, reduceEqDiff, reduceCtorEq, reduceIte, ↓Opt.is, ↓Opt.no, ↓Asks.yes, ↓Asks.no, tyL, encL, asB]))
   refine ⟨_, hc, ?_⟩; (repeat (first | refine ap (by rfl : apartB 0 _ _ = true) ?_ | refine ap (by simp [osL, D.flat]) ?_)); repeat (first | refine aq ?_ | refine ap (by rfl : apartB 0 _ _ = true) ?_ | refine ak ?_ | refine ab ?_ | refine al ?_ | ((first | refine ar ?_ | refine ad ty_mix (by kernel_rfl) ?_ | refine ac ?_ | refine ae ?_ | with_reducible refine Later.mk ?_); simp only [evD, evL, iteL, aX, St.said, St.asked, evStep, evOp, evP, St.init, St.app, srcStep, kill, setMany, loadS, fieldS, buildS, toks, Fin, upd_app, Array.isEmpty, reduceLT, reduceAdd, reduceMul, reduceLeDiff, reduceSub, reduceEqDiff, reduceCtorEq, reduceIte, ↓Opt.is, ↓Opt.no, ↓Asks.yes, ↓Asks.no, tyL, encL, asB]))
   refine Ab.ret ?_; simp only [evD, evL, iteL, aX, St.said, St.asked, evStep, evOp, evP, St.init, St.app, srcStep, kill, setMany, loadS, fieldS, buildS, toks, Fin, upd_app, Array.isEmpty, reduceLT, reduceAdd, reduceMul, reduceLeDiff, reduceSub, reduceEqDiff, reduceCtorEq, reduceIte, ↓Opt.is, ↓Opt.no, ↓Asks.yes, ↓Asks.no, tyL, List.nodup_cons, encL, Tryz.f62]
end Ab
end

section
/- Chapter 28: the Pareto-optimal repairs, both sides; the items that are kept become an own datum. -/
open Go Go.Proofs Go.RowKit
namespace Ab
theorem getH {P : List (Value × List Int)} {i : Nat} (h : i < P.length) : (P.map (encH encIs))[i]? = some [.h P[i].1 (encIs P[i].2)] := by simp [h, encH]
theorem bareP (P : List (Value × List Int)) (p : List Int → Bool) : ((P.map Prod.snd).filter p).map encB = (P.filter fun q => p q.2).map fun q => enc1 encIs q.2 := by
 induction P with
 | nil => rfl
 | cons a P ih =>
   rw [List.map_cons, List.filter_cons, List.filter_cons]
   by_cases h : p a.2 = true
   · rw [if_pos h, if_pos h, List.map_cons, List.map_cons, ih]; rfl
   · rw [if_neg h, if_neg h, ih]
theorem keepAll_w {g : FuncId} {caps : List S} (hc : Caps caps) (p : List Int → Bool) (l : List (List Int)) (hl : l.length ≤ 1048576) (hp : ∀ x, x ∈ l → AC Tryz.prog g (.d (encIs x) :: caps) (.d (.v (.bool (p x))))) :
   AW Tryz.prog 65 [.o 96 (encIss l), .f (.func g) [] caps] [(96, .tok (encIss l))] (.o 6 (.sl ((l.filter p).map encB))) [(96, .dead), (6, .tok (.sl ((l.filter p).map encB)))] := by
 generalize hR : (l.filter p).map encB = R
 unfold encIss
 refine AW.intro 128 Tryz.func65 rfl (by decide) ⟨by simp [keysM], by simp [keysM], by simp [S.wfs, S.wf, updl, upd, hc.wfs], by simp [wfM, wfB, wfI, S.wfs, S.wf, updl, upd], by simp [S.wf, S.wfs, updl, upd], by simp [wfM, wfB, wfI, S.wfs, S.wf, updl, upd]⟩ (by simp [keysM]) (by simp [Tryz.f65]) ?_; rw [Tryz.ntmps65]; simp only [St.initW, fM, keysM, updl, List.map_cons, List.map_nil]
 repeat (first | refine aq ?_ | refine ap (by rfl : apartB 0 _ _ = true) ?_ | refine ak ?_ | refine ab ?_ | refine al ?_ | ((first | refine ar ?_ | refine ad ty_mix (by kernel_rfl) ?_ | refine ac ?_ | refine ae ?_ | with_reducible refine Later.mk ?_); simp only [evD, evL, iteL, aX, St.said, St.asked, evStep, evOp, evP, St.init, St.app, srcStep, kill, setMany, loadS, fieldS, buildS, toks, Fin, upd_app, Array.isEmpty, reduceLT, reduceAdd, reduceMul, reduceLeDiff, reduceSub, reduceEqDiff, reduceCtorEq, reduceIte, ↓Opt.is, ↓Opt.no, ↓Asks.yes, ↓Asks.no, tyL, encL, asB]))
 refine Ab.weaken (Le.adopt (t := 5) (id := 1) (n := 1) 55 (by omega) (by simp only [evD, evL, iteL, aX, St.said, St.asked, evStep, evOp, evP, St.init, St.app, srcStep, kill, setMany, loadS, fieldS, buildS, toks, Fin, upd_app, Array.isEmpty, reduceLT, reduceAdd, reduceMul, reduceLeDiff, reduceSub, reduceEqDiff, reduceCtorEq, reduceIte, ↓Opt.is, ↓Opt.no, ↓Asks.yes, ↓Asks.no, tyL, encL]) (by simp only [evD, evL, iteL, aX, St.said, St.asked, evStep, evOp, evP, St.init, St.app, srcStep, kill, setMany, loadS, fieldS, buildS, toks, Fin, upd_app, Array.isEmpty, reduceLT, reduceAdd, reduceMul, reduceLeDiff, reduceSub, reduceEqDiff, reduceCtorEq, reduceIte, ↓Opt.is, ↓Opt.no, ↓Asks.yes, ↓Asks.no, tyL, encL])) ?_
 simp only [evD, evL, iteL, aX, St.said, St.asked, evStep, evOp, evP, St.init, St.app, srcStep, kill, setMany, loadS, fieldS, buildS, toks, Fin, upd_app, Array.isEmpty, reduceLT, reduceAdd, reduceMul, reduceLeDiff, reduceSub, reduceEqDiff, reduceCtorEq, reduceIte, ↓Opt.is, ↓Opt.no, ↓Asks.yes, ↓Asks.no, tyL, encL]
 refine Ab.weaken (s' := mkS 23 [(1, .f (.func g) [] caps), (5, .g 1 []), (8, .o 96 (.sl (l.map encB))), (9, .d (.v (.int .i64 (l.length : Int)))), (10, .d (.v (.int .i64 0)))] [(1, .tip false 55 1 []), (96, .tok (.sl (l.map encB))), (9, .frm [96]), (11, .dead)] 320) (by ((first | refine Le.mk rfl ?_ ?_ | refine LeTo.mk rfl ?_ ?_) <;> simp only [evD, evL, iteL, aX, St.said, St.asked, evStep, evOp, evP, St.init, St.app, srcStep, kill, setMany, loadS, fieldS, buildS, toks, Fin, upd_app, Array.isEmpty, reduceLT, reduceAdd, reduceMul, reduceLeDiff, reduceSub, reduceEqDiff, reduceCtorEq, reduceIte, ↓Opt.is, ↓Opt.no, ↓Asks.yes, ↓Asks.no, tyL, encL, leL, leD, ne_eq, hc.wfs, frL, wfI])) ?_
 refine Ab.name (f := encIs) 96 8 (l := l) rfl rfl fun P hP => ?_
 simp only [evD, evL, iteL, aX, St.said, St.asked, evStep, evOp, evP, St.init, St.app, srcStep, kill, setMany, loadS, fieldS, buildS, toks, Fin, upd_app, Array.isEmpty, reduceLT, reduceAdd, reduceMul, reduceLeDiff, reduceSub, reduceEqDiff, reduceCtorEq, reduceIte, ↓Opt.is, ↓Opt.no, ↓Asks.yes, ↓Asks.no, tyL, encL, mkS, updl]
 have hPl : P.length = l.length := by rw [← hP, List.length_map]
 have hPm : ∀ (i : Nat) (h : i < P.length), P[i].2 ∈ l := fun i h => by rw [← hP]; exact List.mem_map.2 ⟨_, List.getElem_mem h, rfl⟩
 rw [← hP, bareP] at hR
 rw [← hPl]
 rw [← hPl] at hl
 refine Ab.loopI P.length (fun _ => True) (fun i => mkS 23 [(1, .f (.func g) [] caps), (5, .g 1 (((P.take i).filter fun q => p q.2).map (encH encIs))), (8, .o 96 (.sl (P.map (encH encIs)))), (9, .d (.v (.int .i64 (P.length : Int)))), (10, .d (.v (.int .i64 (i : Int))))] [(1, .tip false 55 1 (((P.take i).filter fun q => p q.2).map (encH encIs))), (96, .tok (.sl (P.map (encH encIs)))), (9, .frm [96]), (11, .dead)] 320) trivial ?_ ?_
 · ((first | refine Le.mk rfl ?_ ?_ | refine LeTo.mk rfl ?_ ?_) <;> simp only [evD, evL, iteL, aX, St.said, St.asked, evStep, evOp, evP, St.init, St.app, srcStep, kill, setMany, loadS, fieldS, buildS, toks, Fin, upd_app, Array.isEmpty, reduceLT, reduceAdd, reduceMul, reduceLeDiff, reduceSub, reduceEqDiff, reduceCtorEq, reduceIte, ↓Opt.is, ↓Opt.no, ↓Asks.yes, ↓Asks.no, tyL, encL, leL, leD, ne_eq, hc.wfs, List.take_zero, List.filter_nil, List.map_nil, frL, wfI])
 intro i hi _
 repeat (first | refine aq ?_ | refine ap (by rfl : apartB 0 _ _ = true) ?_ | refine ak ?_ | refine ab ?_ | refine al ?_ | ((first | refine ar ?_ | refine ad ty_mix (by kernel_rfl) ?_ | refine ac ?_ | refine ae ?_ | with_reducible refine Later.mk ?_); simp only [evD, evL, iteL, aX, St.said, St.asked, evStep, evOp, evP, St.init, St.app, srcStep, kill, setMany, loadS, fieldS, buildS, toks, Fin, upd_app, Array.isEmpty, reduceLT, reduceAdd, reduceMul, reduceLeDiff, reduceSub, reduceEqDiff, reduceCtorEq, reduceIte, ↓Opt.is, ↓Opt.no, ↓Asks.yes, ↓Asks.no, tyL, encL, mkS, updl, asB]))
 refine ⟨fun h => ?_, fun h => ?_⟩
 · have h : i < P.length := by simpa using h
   have hw := wrapN h (by omega)
   have hsl := Nat.le_trans (List.length_filter_le (fun q : Value × List Int => p q.2) (P.take i)) (by rw [List.length_take]; omega : _ ≤ i)
   have hs : (P.take (i + 1)).filter (fun q => p q.2) = (P.take i).filter (fun q => p q.2) ++ (if p P[i].2 = true then [P[i]] else []) := by
     rw [List.take_succ_eq_append_getElem h, List.filter_append]
     simp only [List.filter_cons, List.filter_nil]
   have hgh := getH h
   repeat (first | refine aq ?_ | refine ap (by rfl : apartB 0 _ _ = true) ?_ | refine ak ?_ | refine ab ?_ | refine al ?_ | ((first | refine ar ?_ | refine ad ty_mix (by kernel_rfl) ?_ | refine ac ?_ | refine ae ?_ | with_reducible refine Later.mk ?_); simp only [evD, evL, iteL, aX, St.said, St.asked, evStep, evOp, evP, St.init, St.app, srcStep, kill, setMany, loadS, fieldS, buildS, toks, Fin, upd_app, Array.isEmpty, reduceLT, reduceAdd, reduceMul, reduceLeDiff, reduceSub, reduceEqDiff, reduceCtorEq, reduceIte, ↓Opt.is, ↓Opt.no, ↓Asks.yes, ↓Asks.no, tyL, encL, hgh, hc.argl, hc.readsl, asB]))
   refine Kw.ac ?_; simp only [evD, evL, iteL, aX, St.said, St.asked, evStep, evOp, evP, St.init, St.app, srcStep, kill, setMany, loadS, fieldS, buildS, toks, Fin, upd_app, Array.isEmpty, reduceLT, reduceAdd, reduceMul, reduceLeDiff, reduceSub, reduceEqDiff, reduceCtorEq, reduceIte, ↓Opt.is, ↓Opt.no, ↓Asks.yes, ↓Asks.no, tyL, encL, hc.argl, hc.readsl]
   refine ⟨_, hp P[i].2 (hPm i h), ?_⟩
   try simp only [evD, evL, iteL, aX, St.said, St.asked, evStep, evOp, evP, St.init, St.app, srcStep, kill, setMany, loadS, fieldS, buildS, toks, Fin, upd_app, Array.isEmpty, reduceLT, reduceAdd, reduceMul, reduceLeDiff, reduceSub, reduceEqDiff, reduceCtorEq, reduceIte, ↓Opt.is, ↓Opt.no, ↓Asks.yes, ↓Asks.no, tyL, encL, hc.readsl]
   repeat (first | refine aq ?_ | refine ap (by rfl : apartB 0 _ _ = true) ?_ | refine ak ?_ | refine ab ?_ | refine al ?_ | ((first | refine ar ?_ | refine ad ty_mix (by kernel_rfl) ?_ | refine ac ?_ | refine ae ?_ | with_reducible refine Later.mk ?_); simp only [evD, evL, iteL, aX, St.said, St.asked, evStep, evOp, evP, St.init, St.app, srcStep, kill, setMany, loadS, fieldS, buildS, toks, Fin, upd_app, Array.isEmpty, reduceLT, reduceAdd, reduceMul, reduceLeDiff, reduceSub, reduceEqDiff, reduceCtorEq, reduceIte, ↓Opt.is, ↓Opt.no, ↓Asks.yes, ↓Asks.no, tyL, encL, asB]))
   refine ⟨fun h3 => ?_, fun h3 => ?_⟩
   · rw [if_pos h3] at hs
     repeat (first | refine aq ?_ | refine ap (by rfl : apartB 0 _ _ = true) ?_ | refine ak ?_ | refine ab ?_ | refine al ?_ | ((first | refine ar ?_ | refine ad ty_mix (by kernel_rfl) ?_ | refine ac ?_ | refine ae ?_ | with_reducible refine Later.mk ?_); simp only [evD, evL, iteL, aX, St.said, St.asked, evStep, evOp, evP, St.init, St.app, srcStep, kill, setMany, loadS, fieldS, buildS, toks, Fin, upd_app, Array.isEmpty, reduceLT, reduceAdd, reduceMul, reduceLeDiff, reduceSub, reduceEqDiff, reduceCtorEq, reduceIte, ↓Opt.is, ↓Opt.no, ↓Asks.yes, ↓Asks.no, tyL, encL, hgh, asB]))
     refine ⟨by simp, false, by simp, Later.mk ?_⟩
     simp only [evD, evL, iteL, aX, St.said, St.asked, evStep, evOp, evP, St.init, St.app, srcStep, kill, setMany, loadS, fieldS, buildS, toks, Fin, upd_app, Array.isEmpty, reduceLT, reduceAdd, reduceMul, reduceLeDiff, reduceSub, reduceEqDiff, reduceCtorEq, reduceIte, ↓Opt.is, ↓Opt.no, ↓Asks.yes, ↓Asks.no, tyL, encL]
     refine ⟨by simp only [maxLen]; omega, by omega, ?_⟩
     repeat (first | refine aq ?_ | refine ap (by rfl : apartB 0 _ _ = true) ?_ | refine ak ?_ | refine ab ?_ | refine al ?_ | ((first | refine ar ?_ | refine ad ty_mix (by kernel_rfl) ?_ | refine ac ?_ | refine ae ?_ | with_reducible refine Later.mk ?_); simp only [evD, evL, iteL, aX, St.said, St.asked, evStep, evOp, evP, St.init, St.app, srcStep, kill, setMany, loadS, fieldS, buildS, toks, Fin, upd_app, Array.isEmpty, reduceLT, reduceAdd, reduceMul, reduceLeDiff, reduceSub, reduceEqDiff, reduceCtorEq, reduceIte, ↓Opt.is, ↓Opt.no, ↓Asks.yes, ↓Asks.no, tyL, encL, hw, asB]))
     refine ⟨h, ?_⟩
     ((first | refine Le.mk rfl ?_ ?_ | refine LeTo.mk rfl ?_ ?_) <;> simp only [evD, evL, iteL, aX, St.said, St.asked, evStep, evOp, evP, St.init, St.app, srcStep, kill, setMany, loadS, fieldS, buildS, toks, Fin, upd_app, Array.isEmpty, reduceLT, reduceAdd, reduceMul, reduceLeDiff, reduceSub, reduceEqDiff, reduceCtorEq, reduceIte, ↓Opt.is, ↓Opt.no, ↓Asks.yes, ↓Asks.no, tyL, encL, leL, leD, ne_eq, hc.wfs, hs, List.map_append, List.map_cons, List.map_nil, encH, frL, wfI])
   · rw [if_neg (by rw [h3]; exact Bool.false_ne_true), List.append_nil] at hs
     repeat (first | refine aq ?_ | refine ap (by rfl : apartB 0 _ _ = true) ?_ | refine ak ?_ | refine ab ?_ | refine al ?_ | ((first | refine ar ?_ | refine ad ty_mix (by kernel_rfl) ?_ | refine ac ?_ | refine ae ?_ | with_reducible refine Later.mk ?_); simp only [evD, evL, iteL, aX, St.said, St.asked, evStep, evOp, evP, St.init, St.app, srcStep, kill, setMany, loadS, fieldS, buildS, toks, Fin, upd_app, Array.isEmpty, reduceLT, reduceAdd, reduceMul, reduceLeDiff, reduceSub, reduceEqDiff, reduceCtorEq, reduceIte, ↓Opt.is, ↓Opt.no, ↓Asks.yes, ↓Asks.no, tyL, encL, hw, asB]))
     refine ⟨h, ?_⟩
     ((first | refine Le.mk rfl ?_ ?_ | refine LeTo.mk rfl ?_ ?_) <;> simp only [evD, evL, iteL, aX, St.said, St.asked, evStep, evOp, evP, St.init, St.app, srcStep, kill, setMany, loadS, fieldS, buildS, toks, Fin, upd_app, Array.isEmpty, reduceLT, reduceAdd, reduceMul, reduceLeDiff, reduceSub, reduceEqDiff, reduceCtorEq, reduceIte, ↓Opt.is, ↓Opt.no, ↓Asks.yes, ↓Asks.no, tyL, encL, leL, leD, ne_eq, hc.wfs, hs, frL, wfI])
 · have h : i = P.length := by have := of_decide_eq_false h; omega
   subst h
   rw [List.take_length]
   refine Ab.weaken (s' := mkS 23 [(5, .g 1 ((P.filter fun q => p q.2).map (encH encIs)))] [(1, .tip false 55 1 ((P.filter fun q => p q.2).map (encH encIs))), (96, .tok (.sl (P.map (encH encIs)))), (9, .frm [96]), (11, .dead)] 400) (by ((first | refine Le.mk rfl ?_ ?_ | refine LeTo.mk rfl ?_ ?_) <;> simp only [evD, evL, iteL, aX, St.said, St.asked, evStep, evOp, evP, St.init, St.app, srcStep, kill, setMany, loadS, fieldS, buildS, toks, Fin, upd_app, Array.isEmpty, reduceLT, reduceAdd, reduceMul, reduceLeDiff, reduceSub, reduceEqDiff, reduceCtorEq, reduceIte, ↓Opt.is, ↓Opt.no, ↓Asks.yes, ↓Asks.no, tyL, encL, leL, leD, ne_eq, frL, wfI])) ?_
   refine Ab.weaken (Le.pick (f := encIs) (P := P) (R := P.filter fun q => p q.2) 1 96 6 5 (dp := false) (e := 55) rfl rfl rfl rfl List.filter_sublist (by show 5 < 23; omega)) ?_
   simp only [evD, evL, iteL, aX, St.said, St.asked, evStep, evOp, evP, St.init, St.app, srcStep, kill, setMany, loadS, fieldS, buildS, toks, Fin, upd_app, Array.isEmpty, reduceLT, reduceAdd, reduceMul, reduceLeDiff, reduceSub, reduceEqDiff, reduceCtorEq, reduceIte, ↓Opt.is, ↓Opt.no, ↓Asks.yes, ↓Asks.no, tyL, encL, mkS, updl]
   rw [hR]
   repeat (first | refine aq ?_ | refine ap (by rfl : apartB 0 _ _ = true) ?_ | refine ak ?_ | refine ab ?_ | refine al ?_ | ((first | refine ar ?_ | refine ad ty_mix (by kernel_rfl) ?_ | refine ac ?_ | refine ae ?_ | with_reducible refine Later.mk ?_); simp only [evD, evL, iteL, aX, St.said, St.asked, evStep, evOp, evP, St.init, St.app, srcStep, kill, setMany, loadS, fieldS, buildS, toks, Fin, upd_app, Array.isEmpty, reduceLT, reduceAdd, reduceMul, reduceLeDiff, reduceSub, reduceEqDiff, reduceCtorEq, reduceIte, ↓Opt.is, ↓Opt.no, ↓Asks.yes, ↓Asks.no, tyL, encL, asB]))
   refine Ab.ret ?_; simp only [evD, evL, iteL, aX, St.said, St.asked, evStep, evOp, evP, St.init, St.app, srcStep, kill, setMany, loadS, fieldS, buildS, toks, Fin, upd_app, Array.isEmpty, reduceLT, reduceAdd, reduceMul, reduceLeDiff, reduceSub, reduceEqDiff, reduceCtorEq, reduceIte, ↓Opt.is, ↓Opt.no, ↓Asks.yes, ↓Asks.no, tyL, encL, leL, leD, ne_eq, frL, preM, postM, keysM, B.okM, List.mem_cons, List.not_mem_nil, or_false, false_or, true_or, or_true, EndsW, FinW, LeR, oneOf, fM, updl, allM, List.nodup_cons, Tryz.f65]
def parR (n : Int) (l p : List Edg) : List (List Int) := (miL n l).filter (parOk n l p)
theorem parR_len (n : Int) (l p : List Edg) : (parR n l p).length ≤ 16384 := Nat.le_trans (List.length_filter_le _ _) (miL_len n l)
theorem parR_mem {n : Int} {l p : List Edg} {s : List Int} (h : s ∈ parR n l p) : s.length ≤ 64 ∧ (eSlice eInt).good s := miL_mem (List.mem_filter.1 h).1
theorem implParetoOptimalRepairs_a {n : Int} {l p : List Edg} (gE : (eSlice eEdg).good l) (gP : (eSlice eEdg).good p) (hl : l.length ≤ 1048576) (hp : p.length ≤ 1048576) : AC Tryz.prog 46 [.d (.v (.int .i64 n)), .d (encEs l), .d (encEs p)] (.o 0 (encIss (parR n l p))) := by
 have hc1 := implMaximalIndependentSets_a (n := n) gE hl
 have hlen := miL_len n l
 have hw := keepAll_w (g := 66) (caps_three [.v (.int .i64 n)] [encEs l] [encEs p] 0 0 0) (parOk n l p) (miL n l) (by omega) (fun x hx => by
   obtain ⟨h1, h2⟩ := miL_mem hx
   have hc := implIsParetoOptimal_a (n := n) (s := x) gE gP h2 hl hp (by omega)
   refine AC.intro Tryz.func66 rfl (by decide) (by simp [S.res, S.ress]) (by simp [S.os, S.oss]) (by simp [S.wfs, S.wf, dbS]) (by simp [Tryz.f66]) ?_; rw [Tryz.ntmps66]
   repeat (first | refine aq ?_ | refine ap (by rfl : apartB 0 _ _ = true) ?_ | refine ak ?_ | refine ab ?_ | refine al ?_ | ((first | refine ar ?_ | refine ad ty_mix (by kernel_rfl) ?_ | refine ac ?_ | refine ae ?_ | with_reducible refine Later.mk ?_); simp only [evD, evL, iteL, aX, St.said, St.asked, evStep, evOp, evP, St.init, St.app, srcStep, kill, setMany, loadS, fieldS, buildS, toks, Fin, upd_app, Array.isEmpty, reduceLT, reduceAdd, reduceMul, reduceLeDiff, reduceSub, reduceEqDiff, reduceCtorEq, reduceIte, ↓Opt.is, ↓Opt.no, ↓Asks.yes, ↓Asks.no, tyL, encL, asB]))
   refine ⟨_, hc, ?_⟩; (repeat (first | refine ap (by rfl : apartB 0 _ _ = true) ?_ | refine ap (by simp [osL, D.flat]) ?_)); repeat (first | refine aq ?_ | refine ap (by rfl : apartB 0 _ _ = true) ?_ | refine ak ?_ | refine ab ?_ | refine al ?_ | ((first | refine ar ?_ | refine ad ty_mix (by kernel_rfl) ?_ | refine ac ?_ | refine ae ?_ | with_reducible refine Later.mk ?_); simp only [evD, evL, iteL, aX, St.said, St.asked, evStep, evOp, evP, St.init, St.app, srcStep, kill, setMany, loadS, fieldS, buildS, toks, Fin, upd_app, Array.isEmpty, reduceLT, reduceAdd, reduceMul, reduceLeDiff, reduceSub, reduceEqDiff, reduceCtorEq, reduceIte, ↓Opt.is, ↓Opt.no, ↓Asks.yes, ↓Asks.no, tyL, encL, asB]))
   refine Ab.ret ?_; simp only [evD, evL, iteL, aX, St.said, St.asked, evStep, evOp, evP, St.init, St.app, srcStep, kill, setMany, loadS, fieldS, buildS, toks, Fin, upd_app, Array.isEmpty, reduceLT, reduceAdd, reduceMul, reduceLeDiff, reduceSub, reduceEqDiff, reduceCtorEq, reduceIte, ↓Opt.is, ↓Opt.no, ↓Asks.yes, ↓Asks.no, tyL, List.nodup_cons, encL, Tryz.f66])
 unfold parR
 generalize parOk n l p = ok at *
 generalize miL n l = R at *
 refine AC.intro Tryz.func46 rfl (by decide) (by simp [S.res, S.ress]) (by simp [S.os, S.oss]) (by simp [S.wfs, S.wf, dbS]) (by simp [Tryz.f46]) ?_; rw [Tryz.ntmps46]
 refine Ab.seq (Ab.region' ?_)
 simp only [evD, evL, iteL, aX, St.said, St.asked, evStep, evOp, evP, St.init, St.app, srcStep, kill, setMany, loadS, fieldS, buildS, toks, Fin, upd_app, Array.isEmpty, reduceLT, reduceAdd, reduceMul, reduceLeDiff, reduceSub, reduceEqDiff, reduceCtorEq, reduceIte, ↓Opt.is, ↓Opt.no, ↓Asks.yes, ↓Asks.no, tyL, encL]
 refine Ab.weaken (Le.freeze (id := 0) (t := 3) (ds := [.v (.int .i64 n)]) (by simp only [evD, evL, iteL, aX, St.said, St.asked, evStep, evOp, evP, St.init, St.app, srcStep, kill, setMany, loadS, fieldS, buildS, toks, Fin, upd_app, Array.isEmpty, reduceLT, reduceAdd, reduceMul, reduceLeDiff, reduceSub, reduceEqDiff, reduceCtorEq, reduceIte, ↓Opt.is, ↓Opt.no, ↓Asks.yes, ↓Asks.no, tyL, encL, mkS, updl]) (by simp only [evD, evL, iteL, aX, St.said, St.asked, evStep, evOp, evP, St.init, St.app, srcStep, kill, setMany, loadS, fieldS, buildS, toks, Fin, upd_app, Array.isEmpty, reduceLT, reduceAdd, reduceMul, reduceLeDiff, reduceSub, reduceEqDiff, reduceCtorEq, reduceIte, ↓Opt.is, ↓Opt.no, ↓Asks.yes, ↓Asks.no, tyL, encL, mkS, updl])) ?_
 simp only [evD, evL, iteL, aX, St.said, St.asked, evStep, evOp, evP, St.init, St.app, srcStep, kill, setMany, loadS, fieldS, buildS, toks, Fin, upd_app, Array.isEmpty, reduceLT, reduceAdd, reduceMul, reduceLeDiff, reduceSub, reduceEqDiff, reduceCtorEq, reduceIte, ↓Opt.is, ↓Opt.no, ↓Asks.yes, ↓Asks.no, tyL, encL, mkS, updl]
 refine Ab.weaken (Le.freeze (id := 16) (t := 4) (ds := [.sl (List.map encE l)]) (by simp only [evD, evL, iteL, aX, St.said, St.asked, evStep, evOp, evP, St.init, St.app, srcStep, kill, setMany, loadS, fieldS, buildS, toks, Fin, upd_app, Array.isEmpty, reduceLT, reduceAdd, reduceMul, reduceLeDiff, reduceSub, reduceEqDiff, reduceCtorEq, reduceIte, ↓Opt.is, ↓Opt.no, ↓Asks.yes, ↓Asks.no, tyL, encL, mkS, updl]) (by simp only [evD, evL, iteL, aX, St.said, St.asked, evStep, evOp, evP, St.init, St.app, srcStep, kill, setMany, loadS, fieldS, buildS, toks, Fin, upd_app, Array.isEmpty, reduceLT, reduceAdd, reduceMul, reduceLeDiff, reduceSub, reduceEqDiff, reduceCtorEq, reduceIte, ↓Opt.is, ↓Opt.no, ↓Asks.yes, ↓Asks.no, tyL, encL, mkS, updl])) ?_
 simp only [evD, evL, iteL, aX, St.said, St.asked, evStep, evOp, evP, St.init, St.app, srcStep, kill, setMany, loadS, fieldS, buildS, toks, Fin, upd_app, Array.isEmpty, reduceLT, reduceAdd, reduceMul, reduceLeDiff, reduceSub, reduceEqDiff, reduceCtorEq, reduceIte, ↓Opt.is, ↓Opt.no, ↓Asks.yes, ↓Asks.no, tyL, encL, mkS, updl]
 refine Ab.weaken (Le.freeze (id := 32) (t := 5) (ds := [.sl (List.map encE p)]) (by simp only [evD, evL, iteL, aX, St.said, St.asked, evStep, evOp, evP, St.init, St.app, srcStep, kill, setMany, loadS, fieldS, buildS, toks, Fin, upd_app, Array.isEmpty, reduceLT, reduceAdd, reduceMul, reduceLeDiff, reduceSub, reduceEqDiff, reduceCtorEq, reduceIte, ↓Opt.is, ↓Opt.no, ↓Asks.yes, ↓Asks.no, tyL, encL, mkS, updl]) (by simp only [evD, evL, iteL, aX, St.said, St.asked, evStep, evOp, evP, St.init, St.app, srcStep, kill, setMany, loadS, fieldS, buildS, toks, Fin, upd_app, Array.isEmpty, reduceLT, reduceAdd, reduceMul, reduceLeDiff, reduceSub, reduceEqDiff, reduceCtorEq, reduceIte, ↓Opt.is, ↓Opt.no, ↓Asks.yes, ↓Asks.no, tyL, encL, mkS, updl])) ?_
 simp only [evD, evL, iteL, aX, St.said, St.asked, evStep, evOp, evP, St.init, St.app, srcStep, kill, setMany, loadS, fieldS, buildS, toks, Fin, upd_app, Array.isEmpty, reduceLT, reduceAdd, reduceMul, reduceLeDiff, reduceSub, reduceEqDiff, reduceCtorEq, reduceIte, ↓Opt.is, ↓Opt.no, ↓Asks.yes, ↓Asks.no, tyL, encL, mkS, updl]
 refine Ab.weaken (Le.flag (by simp only [evD, evL, iteL, aX, St.said, St.asked, evStep, evOp, evP, St.init, St.app, srcStep, kill, setMany, loadS, fieldS, buildS, toks, Fin, upd_app, Array.isEmpty, reduceLT, reduceAdd, reduceMul, reduceLeDiff, reduceSub, reduceEqDiff, reduceCtorEq, reduceIte, ↓Opt.is, ↓Opt.no, ↓Asks.yes, ↓Asks.no, tyL, encL, mkS, updl])) ?_
 simp only [evD, evL, iteL, aX, St.said, St.asked, evStep, evOp, evP, St.init, St.app, srcStep, kill, setMany, loadS, fieldS, buildS, toks, Fin, upd_app, Array.isEmpty, reduceLT, reduceAdd, reduceMul, reduceLeDiff, reduceSub, reduceEqDiff, reduceCtorEq, reduceIte, ↓Opt.is, ↓Opt.no, ↓Asks.yes, ↓Asks.no, tyL, encL, mkS, updl]
 repeat (first | refine aq ?_ | refine ap (by rfl : apartB 0 _ _ = true) ?_ | refine ak ?_ | refine ab ?_ | refine al ?_ | ((first | refine ar ?_ | refine ad ty_mix (by kernel_rfl) ?_ | refine ac ?_ | refine ae ?_ | with_reducible refine Later.mk ?_); simp only [evD, evL, iteL, aX, St.said, St.asked, evStep, evOp, evP, St.init, St.app, srcStep, kill, setMany, loadS, fieldS, buildS, toks, Fin, upd_app, Array.isEmpty, reduceLT, reduceAdd, reduceMul, reduceLeDiff, reduceSub, reduceEqDiff, reduceCtorEq, reduceIte, ↓Opt.is, ↓Opt.no, ↓Asks.yes, ↓Asks.no, tyL, encL, asB]))
 refine Kw.ac ?_; simp only [evD, evL, iteL, aX, St.said, St.asked, evStep, evOp, evP, St.init, St.app, srcStep, kill, setMany, loadS, fieldS, buildS, toks, Fin, upd_app, Array.isEmpty, reduceLT, reduceAdd, reduceMul, reduceLeDiff, reduceSub, reduceEqDiff, reduceCtorEq, reduceIte, ↓Opt.is, ↓Opt.no, ↓Asks.yes, ↓Asks.no, tyL, encL]
 refine ⟨_, hc1, ?_⟩; (repeat (first | refine ap (by rfl : apartB 0 _ _ = true) ?_ | refine ap (by simp [osL, D.flat]) ?_)); repeat (first | refine aq ?_ | refine ap (by rfl : apartB 0 _ _ = true) ?_ | refine ak ?_ | refine ab ?_ | refine al ?_ | ((first | refine ar ?_ | refine ad ty_mix (by kernel_rfl) ?_ | refine ac ?_ | refine ae ?_ | with_reducible refine Later.mk ?_); simp only [evD, evL, iteL, aX, St.said, St.asked, evStep, evOp, evP, St.init, St.app, srcStep, kill, setMany, loadS, fieldS, buildS, toks, Fin, upd_app, Array.isEmpty, reduceLT, reduceAdd, reduceMul, reduceLeDiff, reduceSub, reduceEqDiff, reduceCtorEq, reduceIte, ↓Opt.is, ↓Opt.no, ↓Asks.yes, ↓Asks.no, tyL, encL, asB]))
 refine Kw.aw ⟨_, _, _, _, hw, ?_⟩; simp only [evD, evL, iteL, aX, St.said, St.asked, evStep, evOp, evP, St.init, St.app, srcStep, kill, setMany, loadS, fieldS, buildS, toks, Fin, upd_app, Array.isEmpty, reduceLT, reduceAdd, reduceMul, reduceLeDiff, reduceSub, reduceEqDiff, reduceCtorEq, reduceIte, ↓Opt.is, ↓Opt.no, ↓Asks.yes, ↓Asks.no, tyL, encL, leL, leD, ne_eq, frL, preM, postM, keysM, B.okM, List.mem_cons, List.not_mem_nil, or_false, false_or, true_or, or_true]; repeat (first | refine aq ?_ | refine ap (by rfl : apartB 0 _ _ = true) ?_ | refine ak ?_ | refine ab ?_ | refine al ?_ | ((first | refine ar ?_ | refine ad ty_mix (by kernel_rfl) ?_ | refine ac ?_ | refine ae ?_ | with_reducible refine Later.mk ?_); simp only [evD, evL, iteL, aX, St.said, St.asked, evStep, evOp, evP, St.init, St.app, srcStep, kill, setMany, loadS, fieldS, buildS, toks, Fin, upd_app, Array.isEmpty, reduceLT, reduceAdd, reduceMul, reduceLeDiff, reduceSub, reduceEqDiff, reduceCtorEq, reduceIte, ↓Opt.is, ↓Opt.no, ↓Asks.yes, ↓Asks.no, tyL, encL, asB]))
 refine Ab.ret ?_; simp only [evD, evL, iteL, aX, St.said, St.asked, evStep, evOp, evP, St.init, St.app, srcStep, kill, setMany, loadS, fieldS, buildS, toks, Fin, upd_app, Array.isEmpty, reduceLT, reduceAdd, reduceMul, reduceLeDiff, reduceSub, reduceEqDiff, reduceCtorEq, reduceIte, ↓Opt.is, ↓Opt.no, ↓Asks.yes, ↓Asks.no, tyL, List.nodup_cons, encL, Tryz.f46]
theorem specParetoOptimalRepairs_a {n : Int} {l p : List Edg} (gE : (eSlice eEdg).good l) (gP : (eSlice eEdg).good p) (hl : l.length ≤ 1048576) (hp : p.length ≤ 1048576) : AC Tryz.prog 42 [.d (.v (.int .i64 n)), .d (encEs l), .d (encEs p)] (.d (encIss (parR n l p))) := by
 have hc1 := specMaximalIndependentSets_a (n := n) gE hl
 have hlen := miL_len n l
 have hmem := fun s h => miL_mem (n := n) (l := l) (s := s) h
 have z3 : ∀ x : Nat, (0 ≤ (x : Int)) = True := fun x => eq_true (by omega)
 unfold parR
 generalize miL n l = R at *
 refine AC.intro Tryz.func42 rfl (by decide) (by simp [S.res, S.ress]) (by simp [S.os, S.oss]) (by simp [S.wfs, S.wf, dbS]) (by simp [Tryz.f42]) ?_; rw [Tryz.ntmps42]
 repeat (first | refine aq ?_ | refine ap (by rfl : apartB 0 _ _ = true) ?_ | refine ak ?_ | refine ab ?_ | refine al ?_ | ((first | refine ar ?_ | refine ad ty_mix (by kernel_rfl) ?_ | refine ac ?_ | refine ae ?_ | with_reducible refine Later.mk ?_); simp only [evD, evL, iteL, aX, St.said, St.asked, evStep, evOp, evP, St.init, St.app, srcStep, kill, setMany, loadS, fieldS, buildS, toks, Fin, upd_app, Array.isEmpty, reduceLT, reduceAdd, reduceMul, reduceLeDiff, reduceSub, reduceEqDiff, reduceCtorEq, reduceIte, ↓Opt.is, ↓Opt.no, ↓Asks.yes, ↓Asks.no, tyL, encL, asB]))
 refine ⟨_, hc1, ?_⟩; (repeat (first | refine ap (by rfl : apartB 0 _ _ = true) ?_ | refine ap (by simp [osL, D.flat]) ?_)); repeat (first | refine aq ?_ | refine ap (by rfl : apartB 0 _ _ = true) ?_ | refine ak ?_ | refine ab ?_ | refine al ?_ | ((first | refine ar ?_ | refine ad ty_mix (by kernel_rfl) ?_ | refine ac ?_ | refine ae ?_ | with_reducible refine Later.mk ?_); simp only [evD, evL, iteL, aX, St.said, St.asked, evStep, evOp, evP, St.init, St.app, srcStep, kill, setMany, loadS, fieldS, buildS, toks, Fin, upd_app, Array.isEmpty, reduceLT, reduceAdd, reduceMul, reduceLeDiff, reduceSub, reduceEqDiff, reduceCtorEq, reduceIte, ↓Opt.is, ↓Opt.no, ↓Asks.yes, ↓Asks.no, tyL, encL, asB]))
 refine Ab.loopI R.length (fun _ => True) (fun i => mkS 36 [(0, .d (.v (.int .i64 n))), (1, .d (.sl (List.map encE l))), (2, .d (.sl (List.map encE p))), (7, .g 16 (((R.take i).filter (parOk n l p)).map encB)), (8, .d (.sl (R.map encB))), (9, .d (.v (.int .i64 (i : Int))))] [(16, .tip false 55 1 (((R.take i).filter (parOk n l p)).map encB))] 160) trivial ?_ ?_
 · ((first | refine Le.mk rfl ?_ ?_ | refine LeTo.mk rfl ?_ ?_) <;> simp only [evD, evL, iteL, aX, St.said, St.asked, evStep, evOp, evP, St.init, St.app, srcStep, kill, setMany, loadS, fieldS, buildS, toks, Fin, upd_app, Array.isEmpty, reduceLT, reduceAdd, reduceMul, reduceLeDiff, reduceSub, reduceEqDiff, reduceCtorEq, reduceIte, ↓Opt.is, ↓Opt.no, ↓Asks.yes, ↓Asks.no, tyL, encL, leL, leD, ne_eq, List.take_zero, List.filter_nil, List.map_nil])
 intro i hi _
 repeat (first | refine aq ?_ | refine ap (by rfl : apartB 0 _ _ = true) ?_ | refine ak ?_ | refine ab ?_ | refine al ?_ | ((first | refine ar ?_ | refine ad ty_mix (by kernel_rfl) ?_ | refine ac ?_ | refine ae ?_ | with_reducible refine Later.mk ?_); simp only [evD, evL, iteL, aX, St.said, St.asked, evStep, evOp, evP, St.init, St.app, srcStep, kill, setMany, loadS, fieldS, buildS, toks, Fin, upd_app, Array.isEmpty, reduceLT, reduceAdd, reduceMul, reduceLeDiff, reduceSub, reduceEqDiff, reduceCtorEq, reduceIte, ↓Opt.is, ↓Opt.no, ↓Asks.yes, ↓Asks.no, tyL, encL, mkS, updl, asB]))
 refine ⟨fun h => ?_, fun h => ?_⟩
 · have h : i < R.length := by simpa using h
   have hw := wrapN h (by omega)
   have hgb := getB h
   obtain ⟨m1, m2⟩ := hmem _ (List.getElem_mem h)
   have hc := specIsParetoOptimal_a (n := n) gE gP m2 hl hp (by omega)
   have hll : ((R.take i).filter (parOk n l p)).length ≤ i := Nat.le_trans (List.length_filter_le _ _) (by rw [List.length_take]; omega)
   have hs : (R.take (i + 1)).filter (parOk n l p) = (R.take i).filter (parOk n l p) ++ (if parOk n l p R[i] = true then [R[i]] else []) := by
     rw [List.take_succ_eq_append_getElem h, List.filter_append]
     simp only [List.filter_cons, List.filter_nil]
   generalize parOk n l p = ok at *
   generalize (R.take i).filter ok = U at *
   generalize (R.take (i + 1)).filter ok = U2 at *
   generalize R[i] = x at *
   by_cases c : ok x = true
   · rw [if_pos c] at hs
     rw [c] at hc
     repeat (first | refine aq ?_ | refine ap (by rfl : apartB 0 _ _ = true) ?_ | refine ak ?_ | refine ab ?_ | refine al ?_ | ((first | refine ar ?_ | refine ad ty_mix (by kernel_rfl) ?_ | refine ac ?_ | refine ae ?_ | with_reducible refine Later.mk ?_); simp only [evD, evL, iteL, aX, St.said, St.asked, evStep, evOp, evP, St.init, St.app, srcStep, kill, setMany, loadS, fieldS, buildS, toks, Fin, upd_app, Array.isEmpty, reduceLT, reduceAdd, reduceMul, reduceLeDiff, reduceSub, reduceEqDiff, reduceCtorEq, reduceIte, ↓Opt.is, ↓Opt.no, ↓Asks.yes, ↓Asks.no, tyL, encL, hgb, z3, asB]))
     refine ⟨_, hc, ?_⟩; (repeat (first | refine ap (by rfl : apartB 0 _ _ = true) ?_ | refine ap (by simp [osL, D.flat]) ?_)); repeat (first | refine aq ?_ | refine ap (by rfl : apartB 0 _ _ = true) ?_ | refine ak ?_ | refine ab ?_ | refine al ?_ | ((first | refine ar ?_ | refine ad ty_mix (by kernel_rfl) ?_ | refine ac ?_ | refine ae ?_ | with_reducible refine Later.mk ?_); simp only [evD, evL, iteL, aX, St.said, St.asked, evStep, evOp, evP, St.init, St.app, srcStep, kill, setMany, loadS, fieldS, buildS, toks, Fin, upd_app, Array.isEmpty, reduceLT, reduceAdd, reduceMul, reduceLeDiff, reduceSub, reduceEqDiff, reduceCtorEq, reduceIte, ↓Opt.is, ↓Opt.no, ↓Asks.yes, ↓Asks.no, tyL, encL, hgb, z3, asB]))
     refine ⟨fun e he => by subst he; rfl, false, (fun h => by cases h), Later.mk ?_⟩
     simp only [evD, evL, iteL, aX, St.said, St.asked, evStep, evOp, evP, St.init, St.app, srcStep, kill, setMany, loadS, fieldS, buildS, toks, Fin, upd_app, Array.isEmpty, reduceLT, reduceAdd, reduceMul, reduceLeDiff, reduceSub, reduceEqDiff, reduceCtorEq, reduceIte, ↓Opt.is, ↓Opt.no, ↓Asks.yes, ↓Asks.no, tyL, encL]
     refine ⟨by simp only [maxLen]; omega, by omega, ?_⟩
     repeat (first | refine aq ?_ | refine ap (by rfl : apartB 0 _ _ = true) ?_ | refine ak ?_ | refine ab ?_ | refine al ?_ | ((first | refine ar ?_ | refine ad ty_mix (by kernel_rfl) ?_ | refine ac ?_ | refine ae ?_ | with_reducible refine Later.mk ?_); simp only [evD, evL, iteL, aX, St.said, St.asked, evStep, evOp, evP, St.init, St.app, srcStep, kill, setMany, loadS, fieldS, buildS, toks, Fin, upd_app, Array.isEmpty, reduceLT, reduceAdd, reduceMul, reduceLeDiff, reduceSub, reduceEqDiff, reduceCtorEq, reduceIte, ↓Opt.is, ↓Opt.no, ↓Asks.yes, ↓Asks.no, tyL, encL, hw, asB]))
     refine ⟨h, ?_⟩
     ((first | refine Le.mk rfl ?_ ?_ | refine LeTo.mk rfl ?_ ?_) <;> simp only [evD, evL, iteL, aX, St.said, St.asked, evStep, evOp, evP, St.init, St.app, srcStep, kill, setMany, loadS, fieldS, buildS, toks, Fin, upd_app, Array.isEmpty, reduceLT, reduceAdd, reduceMul, reduceLeDiff, reduceSub, reduceEqDiff, reduceCtorEq, reduceIte, ↓Opt.is, ↓Opt.no, ↓Asks.yes, ↓Asks.no, tyL, encL, leL, leD, ne_eq, hs, List.map_append, List.map_cons, List.map_nil, encB])
   · have c2 : ok x = false := by simpa using c
     rw [if_neg c, List.append_nil] at hs
     rw [c2] at hc
     repeat (first | refine aq ?_ | refine ap (by rfl : apartB 0 _ _ = true) ?_ | refine ak ?_ | refine ab ?_ | refine al ?_ | ((first | refine ar ?_ | refine ad ty_mix (by kernel_rfl) ?_ | refine ac ?_ | refine ae ?_ | with_reducible refine Later.mk ?_); simp only [evD, evL, iteL, aX, St.said, St.asked, evStep, evOp, evP, St.init, St.app, srcStep, kill, setMany, loadS, fieldS, buildS, toks, Fin, upd_app, Array.isEmpty, reduceLT, reduceAdd, reduceMul, reduceLeDiff, reduceSub, reduceEqDiff, reduceCtorEq, reduceIte, ↓Opt.is, ↓Opt.no, ↓Asks.yes, ↓Asks.no, tyL, encL, hgb, z3, asB]))
     refine ⟨_, hc, ?_⟩; (repeat (first | refine ap (by rfl : apartB 0 _ _ = true) ?_ | refine ap (by simp [osL, D.flat]) ?_)); repeat (first | refine aq ?_ | refine ap (by rfl : apartB 0 _ _ = true) ?_ | refine ak ?_ | refine ab ?_ | refine al ?_ | ((first | refine ar ?_ | refine ad ty_mix (by kernel_rfl) ?_ | refine ac ?_ | refine ae ?_ | with_reducible refine Later.mk ?_); simp only [evD, evL, iteL, aX, St.said, St.asked, evStep, evOp, evP, St.init, St.app, srcStep, kill, setMany, loadS, fieldS, buildS, toks, Fin, upd_app, Array.isEmpty, reduceLT, reduceAdd, reduceMul, reduceLeDiff, reduceSub, reduceEqDiff, reduceCtorEq, reduceIte, ↓Opt.is, ↓Opt.no, ↓Asks.yes, ↓Asks.no, tyL, encL, hgb, z3, hw, asB]))
     refine ⟨h, ?_⟩
     ((first | refine Le.mk rfl ?_ ?_ | refine LeTo.mk rfl ?_ ?_) <;> simp only [evD, evL, iteL, aX, St.said, St.asked, evStep, evOp, evP, St.init, St.app, srcStep, kill, setMany, loadS, fieldS, buildS, toks, Fin, upd_app, Array.isEmpty, reduceLT, reduceAdd, reduceMul, reduceLeDiff, reduceSub, reduceEqDiff, reduceCtorEq, reduceIte, ↓Opt.is, ↓Opt.no, ↓Asks.yes, ↓Asks.no, tyL, encL, leL, leD, ne_eq, hs])
 · have h : i = R.length := by have := of_decide_eq_false h; omega
   subst h
   rw [List.take_length]
   repeat (first | refine aq ?_ | refine ap (by rfl : apartB 0 _ _ = true) ?_ | refine ak ?_ | refine ab ?_ | refine al ?_ | ((first | refine ar ?_ | refine ad ty_mix (by kernel_rfl) ?_ | refine ac ?_ | refine ae ?_ | with_reducible refine Later.mk ?_); simp only [evD, evL, iteL, aX, St.said, St.asked, evStep, evOp, evP, St.init, St.app, srcStep, kill, setMany, loadS, fieldS, buildS, toks, Fin, upd_app, Array.isEmpty, reduceLT, reduceAdd, reduceMul, reduceLeDiff, reduceSub, reduceEqDiff, reduceCtorEq, reduceIte, ↓Opt.is, ↓Opt.no, ↓Asks.yes, ↓Asks.no, tyL, encL, asB]))
   refine Ab.ret ?_; simp only [evD, evL, iteL, aX, St.said, St.asked, evStep, evOp, evP, St.init, St.app, srcStep, kill, setMany, loadS, fieldS, buildS, toks, Fin, upd_app, Array.isEmpty, reduceLT, reduceAdd, reduceMul, reduceLeDiff, reduceSub, reduceEqDiff, reduceCtorEq, reduceIte, ↓Opt.is, ↓Opt.no, ↓Asks.yes, ↓Asks.no, tyL, List.nodup_cons, encL, Tryz.f42]
end Ab
end

section
/- Chapter 28: how much memory the Pareto-optimal repairs take. -/
open Go Go.Proofs Go.RowKit
namespace Ab
end Ab
end

section
/- RnkOne: In4 RepP AbSel Rank. -/
/- The model's l1In and l4Set. -/
open Go Go.Proofs Go.RowKit
namespace Ab
end Ab
open Go.RowKit
def selF (d : Dbs) (l : List Int) : List Fct := l.filterMap fun i => d.facts[i.toNat]?
def selOk (d : Dbs) (l : List Int) : Bool := validDb d && setIx d.facts.length l
def selD (d : Dbs) (l : List Int) : Dbs := if selOk d l then ⟨d.rels, selF d l⟩ else ⟨[], []⟩
def partialR (d : Dbs) (l : List Int) : Bool := selOk d l && consistent (selD d l)
def isRepair (d : Dbs) (l : List Int) : Bool := partialR d l && decide (l.length = (blocksL d).length)
def picks : List (List Nat) → List Nat → Prop
 | [], [] => True
 | b :: bs, x :: L => x ∈ b ∧ picks bs L
 | _, _ => False
/- Chapters 4, 5, 7: copies, SelectFacts, partial repairs, repairs. -/
open Go Go.Proofs Go.RowKit
namespace Ab
theorem vld_facts {d : Dbs} (h : validDb d = true) : d.facts.length ≤ 14 := dbValid_len h
end Ab
open Go Go.Proofs Go.RowKit
namespace Ab
def rankP (L : List (List Int)) (l : List Int) : Nat → Int
 | 0 => 0
 | i + 1 => IntKind.i64.wrap (IntKind.i64.wrap (rankP L l i * ((L.getD i []).length : Int)) + idxOf (fun y => l.getD i 0 == y) (L.getD i []))
def rankL (d : Dbs) (l : List Int) : Int := if isRepair d l then rankP (blocksL d) l (blocksL d).length else 0
end Ab
end

section
/- Chapter 9: IsValidConstraint, the model's and the program's. -/
open Go.RowKit
theorem validRels_each {l : List Rel} (h : validRels l = true) (k : Nat) (hk : k < l.length) : validRel l[k] = true := by
 unfold validRels at h
 rw [ascFrom_split] at h
 simp only [Bool.and_eq_true] at h
 exact List.all_eq_true.1 h.1.1 _ (List.getElem_mem hk)
def colOk (l : List Rel) (r c : Int) : Bool := inB r 0 ((l.length : Int) - 1) && inB c 0 (arityAt l r - 1)
theorem isIndexI_any (i n : Int) (w : World) :
   Calls Tryz.prog 105 #[.int .i64 i, .int .i64 n] w fun e w' => e = .returned (.bool (inB i 0 (n - 1))) ∧ w = w' := by
 unfold inB
 have e : decide (i ≤ n - 1) = decide (i < n) := by simp; omega
 rw [e]
 clear e
 by_cases h : 0 ≤ i
 · go_enter Tryz.func105, Tryz.ntmps105
   go_wp2
   go_ret
   exact ⟨by simp; try omega, rfl⟩
 · go_enter Tryz.func105, Tryz.ntmps105
   go_wp2
   go_ret
   exact ⟨by simp; try omega, rfl⟩
theorem isColumn_c {a0 : Option Addr} {cap0 : Nat} {l : List Rel} {w : World} (r c : Int) (h : At (cSlice cRel) w l [.slice a0 l.length cap0]) :
   Calls Tryz.prog 128 #[.slice a0 l.length cap0, .int .i64 r, .int .i64 c] w fun e w' => e = .returned (.bool (colOk l r c)) ∧ w = w' := by
 have hm := (slice_len h).2
 unfold maxLen at hm
 have Hr : Hid (∀ j (hj : j < l.length), _) := fun j hj => at_Relation h j hj
 clear h
 unfold colOk
 obtain ⟨n, hn⟩ : ∃ n : Nat, l.length = n := ⟨_, rfl⟩
 have Hn := Lib.hid hn
 rw [hn] at hm ⊢
 clear hn
 have Hl : Hid (∀ ww, Calls Tryz.prog 105 #[.int .i64 r, .int .i64 n] ww fun e w' => e = .returned (.bool (inB r 0 ((n : Int) - 1))) ∧ ww = w') := fun ww => isIndexI_any _ _ _
 have hI : inB r 0 ((n : Int) - 1) = true → 0 ≤ r ∧ r ≤ (n : Int) - 1 := by unfold inB; simp
 generalize inB r 0 ((n : Int) - 1) = I at *
 cases I with
 | false =>
   rw [Bool.false_and]
   clear hI
   go_enter Tryz.func128, Tryz.ntmps128
   go_wp2_with (go_at_call 105; refine (Hl.out _).mono ?_; rintro e w' ⟨rfl, rfl⟩)
   go_ret
   exact ⟨rfl, rfl⟩
 | true =>
   rw [Bool.true_and]
   obtain ⟨hr0, hr1⟩ := hI rfl
   clear hI
   obtain ⟨k, rfl⟩ := Int.eq_ofNat_of_zero_le hr0
   have hk : k < n := by omega
   have hkl : k < l.length := by rw [Hn.out]; exact hk
   have har : arityAt l (k : Int) = l[k].arity := by unfold arityAt; simp [hkl]
   rw [har]
   clear har
   obtain ⟨b, off, rfl, hbB, c0, c1, c2, hx⟩ := Hr.out k hkl
   have Hl2 : Hid (∀ ww, Calls Tryz.prog 105 #[.int .i64 c, .int .i64 l[k].arity] ww fun e w' => e = .returned (.bool (inB c 0 (l[k].arity - 1))) ∧ ww = w') := fun ww => isIndexI_any _ _ _
   clear hx Hr c0 c2
   generalize l[k] = q at *
   generalize inB c 0 (q.arity - 1) = J at *
   go_enter Tryz.func128, Tryz.ntmps128
   go_wp2_with fail
   refine (Hl.out _).mono ?_
   rintro e w' ⟨rfl, rfl⟩
   go_wp2_with fail
   refine (Hl2.out _).mono ?_
   rintro e w' ⟨rfl, rfl⟩
   go_wp2
   go_ret
   exact ⟨rfl, rfl⟩
def fits (l : List Rel) (c : Dcn) : Bool := colOk l c.r1 c.j1 && (colOk l c.r1 c.c1 && (colOk l c.r2 c.j2 && (colOk l c.r2 c.c2 && inB c.cmp 1 2)))
set_option maxHeartbeats 1600000 in
theorem fitsSchema_c {a0 : Option Addr} {cap0 : Nat} {l : List Rel} {c : Dcn} {w : World} (h : At (cSlice cRel) w l [.slice a0 l.length cap0]) :
   Calls Tryz.prog 114 #[.slice a0 l.length cap0, .agg #[.int .i64 c.r1, .int .i64 c.r2, .int .i64 c.j1, .int .i64 c.j2, .int .i64 c.c1, .int .i64 c.c2, .int .i64 c.cmp]] w fun e w' => e = .returned (.bool (fits l c)) ∧ Below w.heap.size w w' := by
 have H := fun (r q : Int) => Lib.hid (fun ww (hb : Below w.heap.size w ww) => isColumn_c r q (At.below h hb (Nat.le_refl _)))
 have HA := H c.r1 c.j1
 have HB := H c.r1 c.c1
 have HC := H c.r2 c.j2
 have HD := H c.r2 c.c2
 clear H h
 unfold fits
 have hM : inB c.cmp 1 2 = (decide (c.cmp = 1) || decide (c.cmp = 2)) := by
   unfold inB
   by_cases h1 : c.cmp = 1
   · rw [h1]; rfl
   · by_cases h2 : c.cmp = 2
     · rw [h2]; rfl
     · have e : ¬ ((1 : Int) ≤ c.cmp ∧ c.cmp ≤ 2) := by omega
       rw [← Bool.decide_and, decide_eq_false e, decide_eq_false h1, decide_eq_false h2]; rfl
 rw [hM]
 clear hM
 generalize colOk l c.r1 c.j1 = A at *
 generalize colOk l c.r1 c.c1 = B at *
 generalize colOk l c.r2 c.j2 = C at *
 generalize colOk l c.r2 c.c2 = D at *
 obtain ⟨r1, r2, j1, j2, c1, c2, cm⟩ := c
 simp only at *
 generalize l.length = n at *
 obtain ⟨wx, hwx⟩ : ∃ wx, wx = w.alloc (Obj.cells #[.int .i64 r1, .int .i64 r2, .int .i64 j1, .int .i64 j2, .int .i64 c1, .int .i64 c2, .int .i64 cm] 59) := ⟨_, rfl⟩
 have hb0 : Below w.heap.size w wx := by rw [hwx]; go_grown
 have p0 : wx.cell? ⟨w.heap.size, 0, none⟩ = some (.int .i64 r1) := by rw [hwx]; go_simp
 have p1 : wx.cell? ⟨w.heap.size, 1, none⟩ = some (.int .i64 r2) := by rw [hwx]; go_simp
 have p2 : wx.cell? ⟨w.heap.size, 2, none⟩ = some (.int .i64 j1) := by rw [hwx]; go_simp
 have p3 : wx.cell? ⟨w.heap.size, 3, none⟩ = some (.int .i64 j2) := by rw [hwx]; go_simp
 have p4 : wx.cell? ⟨w.heap.size, 4, none⟩ = some (.int .i64 c1) := by rw [hwx]; go_simp
 have p5 : wx.cell? ⟨w.heap.size, 5, none⟩ = some (.int .i64 c2) := by rw [hwx]; go_simp
 have p6 : wx.cell? ⟨w.heap.size, 6, none⟩ = some (.int .i64 cm) := by rw [hwx]; go_simp
 have Hwx := Lib.hid hwx
 clear hwx
 go_enter Tryz.func114, Tryz.ntmps114
 go_wp2_with fail
 rw [← Hwx.out]
 clear Hwx
 refine (HA.out _ hb0).mono ?_
 rintro e w' ⟨rfl, rfl⟩
 cases A with
 | false =>
   go_wp2
   go_ret
   exact ⟨rfl, hb0⟩
 | true =>
   go_wp2_with fail
   refine (HB.out _ hb0).mono ?_
   rintro e w' ⟨rfl, rfl⟩
   cases B with
   | false =>
     go_wp2
     go_ret
     exact ⟨rfl, hb0⟩
   | true =>
     go_wp2_with fail
     refine (HC.out _ hb0).mono ?_
     rintro e w' ⟨rfl, rfl⟩
     cases C with
     | false =>
       go_wp2
       go_ret
       exact ⟨rfl, hb0⟩
     | true =>
       go_wp2_with fail
       refine (HD.out _ hb0).mono ?_
       rintro e w' ⟨rfl, rfl⟩
       cases D with
       | false =>
         go_wp2
         go_ret
         exact ⟨rfl, hb0⟩
       | true =>
         by_cases h1 : cm = 1
         · subst h1
           go_wp2
           go_ret
           exact ⟨rfl, hb0⟩
         · have e1 : (cm == 1) = false := by simp [h1]
           by_cases h2 : cm = 2
           · subst h2
             go_wp2
             go_ret
             exact ⟨rfl, hb0⟩
           · have e2 : (cm == 2) = false := by simp [h2]
             go_wp2
             go_ret
             exact ⟨by simp [h1, h2], hb0⟩
def validCon (d : Dbs) (c : Dcn) : Bool := validDb d && fits d.rels c
set_option maxHeartbeats 3200000 in
theorem specIsValidConstraint_c {a0 a1 : Option Addr} {cap0 cap1 : Nat} {x : Dbs} {c : Dcn} {w : World} (h : At cDbs w x [.slice a0 x.rels.length cap0, .slice a1 x.facts.length cap1]) (hc : At cDcn w c [.int .i64 c.r1, .int .i64 c.r2, .int .i64 c.j1, .int .i64 c.j2, .int .i64 c.c1, .int .i64 c.c2, .int .i64 c.cmp]) :
   Calls Tryz.prog 96 #[.agg #[.slice a0 x.rels.length cap0, .slice a1 x.facts.length cap1], .agg #[.int .i64 c.r1, .int .i64 c.r2, .int .i64 c.j1, .int .i64 c.j2, .int .i64 c.c1, .int .i64 c.c2, .int .i64 c.cmp]] w fun e w' => e = .returned (.bool (validCon x c)) ∧ Below w.heap.size w w' := by
 have hx0 := (cDbs_inv h).1
 have hm := (slice_len hx0).2
 unfold maxLen at hm
 have HR : Hid (∀ w' : World, Below w.heap.size w w' → ∀ j (hj : j < x.rels.length), _) := fun w' hb j hj => at_Relation (Cod.ok_below hx0 hb) j hj
 have H1 : Hid (∀ ww, Below w.heap.size w ww → Calls Tryz.prog 41 #[.agg #[.slice a0 x.rels.length cap0, .slice a1 x.facts.length cap1]] ww fun e w' => e = .returned (.bool (validDb x)) ∧ Below ww.heap.size ww w') :=
   fun ww hb => specIsValidDatabase_c (At.below h hb (Nat.le_refl _))
 have hE : validCon x c = (validDb x && (inB c.r1 0 ((x.rels.length : Int) - 1) && (inB c.r2 0 ((x.rels.length : Int) - 1) && (inB c.j1 0 (arityAt x.rels c.r1 - 1) && (inB c.c1 0 (arityAt x.rels c.r1 - 1) && (inB c.j2 0 (arityAt x.rels c.r2 - 1) && (inB c.c2 0 (arityAt x.rels c.r2 - 1) && inB c.cmp 1 2))))))) := by
   unfold validCon fits colOk
   cases inB c.r1 0 ((x.rels.length : Int) - 1) <;> cases inB c.r2 0 ((x.rels.length : Int) - 1) <;> simp
 have hV : validDb x = true → validRels x.rels = true := by
   intro hv
   unfold validDb at hv
   simp only [Bool.and_eq_true] at hv
   exact hv.2.1
 rw [hE]
 have hrg := cDcn_inv hc
 clear h hc hE hx0
 obtain ⟨l, xf⟩ := x
 obtain ⟨r1, r2, j1, j2, c1, c2, cm⟩ := c
 simp only at *
 obtain ⟨n, hn⟩ : ∃ n : Nat, l.length = n := ⟨_, rfl⟩
 have Hn := Lib.hid hn
 rw [hn] at hm H1 ⊢
 clear hn
 generalize xf.length = nf at *
 have hwn : wrap64 ((n : Int) - 1) = (n : Int) - 1 := IntWalk.wrap64_in _ ⟨by omega, by omega⟩
 generalize validDb ⟨l, xf⟩ = V at *
 have hI1 : inB r1 0 ((n : Int) - 1) = true → 0 ≤ r1 ∧ r1 ≤ (n : Int) - 1 := by unfold inB; simp
 have hI2 : inB r2 0 ((n : Int) - 1) = true → 0 ≤ r2 ∧ r2 ≤ (n : Int) - 1 := by unfold inB; simp
 have K1 : Hid (∀ ww, Calls Tryz.prog 87 #[.int .i64 r1, .int .i64 0, .int .i64 ((n : Int) - 1)] ww fun e w' => e = .returned (.bool (inB r1 0 ((n : Int) - 1))) ∧ ww = w') := fun ww => l1In_any _ _ _ _
 have K2 : Hid (∀ ww, Calls Tryz.prog 87 #[.int .i64 r2, .int .i64 0, .int .i64 ((n : Int) - 1)] ww fun e w' => e = .returned (.bool (inB r2 0 ((n : Int) - 1))) ∧ ww = w') := fun ww => l1In_any _ _ _ _
 generalize hJ1 : inB r1 0 ((n : Int) - 1) = I1 at *
 generalize hJ2 : inB r2 0 ((n : Int) - 1) = I2 at *
 clear hJ1 hJ2
 obtain ⟨wx, hwx⟩ : ∃ wx, wx = (w.alloc (Obj.cells #[.slice a0 n cap0, .slice a1 nf cap1] 34)).alloc (Obj.cells #[.int .i64 r1, .int .i64 r2, .int .i64 j1, .int .i64 j2, .int .i64 c1, .int .i64 c2, .int .i64 cm] 59) := ⟨_, rfl⟩
 have hb0 : Below w.heap.size w wx := by rw [hwx]; go_grown
 have q0 : wx.cell? ⟨w.heap.size, 0, none⟩ = some (.slice a0 n cap0) := by rw [hwx]; go_simp
 have q1 : wx.cell? ⟨w.heap.size, 1, none⟩ = some (.slice a1 nf cap1) := by rw [hwx]; go_simp
 have p0 : wx.cell? ⟨w.heap.size + 1, 0, none⟩ = some (.int .i64 r1) := by rw [hwx]; go_simp
 have p1 : wx.cell? ⟨w.heap.size + 1, 1, none⟩ = some (.int .i64 r2) := by rw [hwx]; go_simp
 have p2 : wx.cell? ⟨w.heap.size + 1, 2, none⟩ = some (.int .i64 j1) := by rw [hwx]; go_simp
 have p3 : wx.cell? ⟨w.heap.size + 1, 3, none⟩ = some (.int .i64 j2) := by rw [hwx]; go_simp
 have p4 : wx.cell? ⟨w.heap.size + 1, 4, none⟩ = some (.int .i64 c1) := by rw [hwx]; go_simp
 have p5 : wx.cell? ⟨w.heap.size + 1, 5, none⟩ = some (.int .i64 c2) := by rw [hwx]; go_simp
 have p6 : wx.cell? ⟨w.heap.size + 1, 6, none⟩ = some (.int .i64 cm) := by rw [hwx]; go_simp
 have Hwx := Lib.hid hwx
 clear hwx
 go_enter Tryz.func96, Tryz.ntmps96
 go_wp2_with fail
 rw [← Hwx.out]
 clear Hwx
 refine (H1.out _ hb0).mono ?_
 rintro e w1 ⟨rfl, hb1⟩
 have hbb : Below w.heap.size w w1 := hb0.trans (hb1.mono hb0.size)
 cases V with
 | false =>
   clear HR hV hI1 hI2
   go_wp2
   go_ret
   exact ⟨rfl, hbb⟩
 | true =>
   have hvr := hV rfl
   clear hV
   replace q0 := cell_next q0 hb1
   replace q1 := cell_next q1 hb1
   replace p0 := cell_next p0 hb1
   replace p1 := cell_next p1 hb1
   replace p2 := cell_next p2 hb1
   replace p3 := cell_next p3 hb1
   replace p4 := cell_next p4 hb1
   replace p5 := cell_next p5 hb1
   replace p6 := cell_next p6 hb1
   clear hb0 hb1 H1
   have Hvr := Lib.hid hvr
   clear hvr
   go_wp2_with fail
   refine (K1.out _).mono ?_
   rintro e w' ⟨rfl, rfl⟩
   cases I1 with
   | false =>
     clear HR hI1 hI2
     go_wp2
     go_ret
     exact ⟨rfl, hbb⟩
   | true =>
     obtain ⟨ha, hb⟩ := hI1 (by first | rfl | trivial)
     clear hI1
     obtain ⟨k1, rfl⟩ := Int.eq_ofNat_of_zero_le ha
     have hk1 : k1 < n := by omega
     have hkl1 : k1 < l.length := by rw [Hn.out]; exact hk1
     clear ha hb
     go_wp2_with fail
     refine (K2.out _).mono ?_
     rintro e w' ⟨rfl, rfl⟩
     cases I2 with
     | false =>
       clear HR hI2
       go_wp2
       go_ret
       exact ⟨rfl, hbb⟩
     | true =>
       obtain ⟨ha, hb⟩ := hI2 (by first | rfl | trivial)
       clear hI2
       obtain ⟨k2, rfl⟩ := Int.eq_ofNat_of_zero_le ha
       have hk2 : k2 < n := by omega
       have hkl2 : k2 < l.length := by rw [Hn.out]; exact hk2
       clear ha hb
       have har1 : arityAt l (k1 : Int) = l[k1].arity := by unfold arityAt; simp [hkl1]
       have har2 : arityAt l (k2 : Int) = l[k2].arity := by unfold arityAt; simp [hkl2]
       obtain ⟨b, off, rfl, hbB, x0, x1, x2, hx⟩ := HR.out _ hbb k1 hkl1
       obtain ⟨b', off', e', hbB', y0, y1, y2, hy⟩ := HR.out _ hbb k2 hkl2
       obtain ⟨rfl, rfl⟩ : b = b' ∧ off = off' := by simp at e'; exact e'
       have hv1 := validRels_each Hvr.out k1 hkl1
       have hv2 := validRels_each Hvr.out k2 hkl2
       unfold validRel inB at hv1 hv2
       simp only [Bool.and_eq_true, decide_eq_true_eq] at hv1 hv2
       have hA1 := hv1.2.1
       have hA2 := hv2.2.1
       clear e' hx hy x0 x2 y0 y2 hv1 hv2 HR Hvr hbB'
       generalize l[k1] = s1 at *
       generalize l[k2] = s2 at *
       obtain ⟨m1, hm1⟩ : ∃ m, s1.arity = m := ⟨_, rfl⟩
       obtain ⟨m2, hm2⟩ : ∃ m, s2.arity = m := ⟨_, rfl⟩
       rw [hm1] at hA1 x1 har1
       rw [hm2] at hA2 y1 har2
       clear hm1 hm2
       have Har1 := Lib.hid har1
       have Har2 := Lib.hid har2
       clear har1 har2
       have hw1 : wrap64 (m1 - 1) = m1 - 1 := IntWalk.wrap64_in _ ⟨by omega, by omega⟩
       have hw2 : wrap64 (m2 - 1) = m2 - 1 := IntWalk.wrap64_in _ ⟨by omega, by omega⟩
       clear hA1 hA2
       go_wp2_with fail
       refine (l1In_any _ _ _ _).mono ?_
       rintro e w' ⟨rfl, rfl⟩
       cases hB0 : inB j1 0 (m1 - 1) with
       | false =>
         have HB0 := Lib.hid hB0
         clear hB0
         go_wp2
         go_ret
         exact ⟨by rw [Har1.out, Har2.out, HB0.out]; simp, hbb⟩
       | true =>
         have HB0 := Lib.hid hB0
         clear hB0
         go_wp2_with fail
         refine (l1In_any _ _ _ _).mono ?_
         rintro e w' ⟨rfl, rfl⟩
         cases hB1 : inB c1 0 (m1 - 1) with
         | false =>
           have HB1 := Lib.hid hB1
           clear hB1
           go_wp2
           go_ret
           exact ⟨by rw [Har1.out, Har2.out, HB0.out, HB1.out]; simp, hbb⟩
         | true =>
           have HB1 := Lib.hid hB1
           clear hB1
           go_wp2_with fail
           refine (l1In_any _ _ _ _).mono ?_
           rintro e w' ⟨rfl, rfl⟩
           cases hB2 : inB j2 0 (m2 - 1) with
           | false =>
             have HB2 := Lib.hid hB2
             clear hB2
             go_wp2
             go_ret
             exact ⟨by rw [Har1.out, Har2.out, HB0.out, HB1.out, HB2.out]; simp, hbb⟩
           | true =>
             have HB2 := Lib.hid hB2
             clear hB2
             go_wp2_with fail
             refine (l1In_any _ _ _ _).mono ?_
             rintro e w' ⟨rfl, rfl⟩
             cases hB3 : inB c2 0 (m2 - 1) with
             | false =>
               have HB3 := Lib.hid hB3
               clear hB3
               go_wp2
               go_ret
               exact ⟨by rw [Har1.out, Har2.out, HB0.out, HB1.out, HB2.out, HB3.out]; simp, hbb⟩
             | true =>
               have HB3 := Lib.hid hB3
               clear hB3
               go_wp2_with fail
               refine (l1In_any _ _ _ _).mono ?_
               rintro e w' ⟨rfl, rfl⟩
               go_wp2
               go_ret
               exact ⟨by rw [Har1.out, Har2.out, HB0.out, HB1.out, HB2.out, HB3.out]; simp, hbb⟩
end

section
/- Chapter 9: ViolatesConstraint, the model's and the program's. -/
open Go.RowKit
def valAt (x : Fct) (c : Int) : Int := x.vals.getD c.toNat 0
def forb (c : Dcn) (x y : Fct) : Bool := decide (x.rel = c.r1) && (decide (y.rel = c.r2) && (decide (valAt x c.j1 = valAt y c.j2) && (if c.cmp = 2 then decide (valAt x c.c1 < valAt y c.c2) else decide (valAt x c.c1 = valAt y c.c2))))
def hasCols (x : Fct) (j c : Int) : Prop := 0 ≤ j ∧ j < (x.vals.length : Int) ∧ 0 ≤ c ∧ c < (x.vals.length : Int)
def forbAt (d : Dbs) (c : Dcn) (i k : Int) : Bool := match d.facts[i.toNat]?, d.facts[k.toNat]? with | some x, some y => forb c x y | _, _ => false
def violates (d : Dbs) (c : Dcn) (i k : Int) : Bool := validCon d c && (inB i 0 ((d.facts.length : Int) - 1) && (inB k 0 ((d.facts.length : Int) - 1) && (!decide (i = k) && forbAt d c i k)))
theorem validDb_fact {d : Dbs} (h : validDb d = true) (k : Nat) (hk : k < d.facts.length) : validFact d.rels d.facts[k] = true := by
 rw [validDb_eq] at h
 simp only [Bool.and_eq_true] at h
 exact List.all_eq_true.1 h.2.1 _ (List.getElem_mem hk)
theorem con_cols {d : Dbs} {c : Dcn} (h : validCon d c = true) (k : Nat) (hk : k < d.facts.length) : (d.facts[k].rel = c.r1 → hasCols d.facts[k] c.j1 c.c1) ∧ (d.facts[k].rel = c.r2 → hasCols d.facts[k] c.j2 c.c2) := by
 unfold validCon fits colOk inB at h
 simp only [Bool.and_eq_true, decide_eq_true_eq] at h
 obtain ⟨h0, ⟨_, h1⟩, ⟨_, h2⟩, ⟨_, h3⟩, ⟨_, h4⟩, _⟩ := h
 have hf := validDb_fact h0 k hk
 unfold validFact inB at hf
 simp only [Bool.and_eq_true, decide_eq_true_eq] at hf
 obtain ⟨_, _, h5, _⟩ := hf
 refine ⟨fun e => ?_, fun e => ?_⟩
 · rw [e] at h5
   exact ⟨h1.1, by omega, h2.1, by omega⟩
 · rw [e] at h5
   exact ⟨h3.1, by omega, h4.1, by omega⟩
theorem con_cmp {d : Dbs} {c : Dcn} (h : validCon d c = true) : c.cmp = 1 ∨ c.cmp = 2 := by
 unfold validCon fits inB at h
 simp only [Bool.and_eq_true, decide_eq_true_eq] at h
 have := h.2.2.2.2.2
 omega
theorem valAt_nat {x : Fct} {j : Nat} (h : j < x.vals.length) : valAt x (j : Int) = x.vals[j] := by unfold valAt; simp [h]
set_option maxHeartbeats 3200000 in
theorem isForbidden_c {ax ay : Option Addr} {cx cy : Nat} {c : Dcn} {x y : Fct} {w : World} (h1 : At cFct w x [.int .i64 x.rel, .slice ax x.vals.length cx]) (h2 : At cFct w y [.int .i64 y.rel, .slice ay y.vals.length cy])
   (hx : x.rel = c.r1 → hasCols x c.j1 c.c1) (hy : y.rel = c.r2 → hasCols y c.j2 c.c2) :
   Calls Tryz.prog 115 #[.agg #[.int .i64 c.r1, .int .i64 c.r2, .int .i64 c.j1, .int .i64 c.j2, .int .i64 c.c1, .int .i64 c.c2, .int .i64 c.cmp], .agg #[.int .i64 x.rel, .slice ax x.vals.length cx], .agg #[.int .i64 y.rel, .slice ay y.vals.length cy]] w fun e w' => e = .returned (.bool (forb c x y)) ∧ Below w.heap.size w w' := by
 have hX := (cFct_inv h1).1
 have hY := (cFct_inv h2).1
 have hmx := (slice_len hX).2
 have hmy := (slice_len hY).2
 unfold maxLen at hmx hmy
 have HX : Hid (∀ w' : World, Below w.heap.size w w' → ∀ j (hj : j < x.vals.length), _) := fun w' hb j hj => ints_at (Cod.ok_below hX hb) j hj
 have HY : Hid (∀ w' : World, Below w.heap.size w w' → ∀ j (hj : j < y.vals.length), _) := fun w' hb j hj => ints_at (Cod.ok_below hY hb) j hj
 clear h1 h2 hX hY
 unfold forb
 by_cases hrx : x.rel = c.r1
 · by_cases hry : y.rel = c.r2
   · obtain ⟨ha, hb, hc, hd⟩ := hx hrx
     obtain ⟨ha', hb', hc', hd'⟩ := hy hry
     rw [decide_eq_true hrx, decide_eq_true hry, Bool.true_and, Bool.true_and]
     clear hx hy
     obtain ⟨r1, r2, j1, j2, c1, c2, cm⟩ := c
     simp only at *
     obtain ⟨j1, rfl⟩ := Int.eq_ofNat_of_zero_le ha
     obtain ⟨c1, rfl⟩ := Int.eq_ofNat_of_zero_le hc
     obtain ⟨j2, rfl⟩ := Int.eq_ofNat_of_zero_le ha'
     obtain ⟨c2, rfl⟩ := Int.eq_ofNat_of_zero_le hc'
     have hj1 : j1 < x.vals.length := by omega
     have hc1 : c1 < x.vals.length := by omega
     have hj2 : j2 < y.vals.length := by omega
     have hc2 : c2 < y.vals.length := by omega
     rw [valAt_nat hj1, valAt_nat hc1, valAt_nat hj2, valAt_nat hc2]
     obtain ⟨rx, vx⟩ := x
     obtain ⟨ry, vy⟩ := y
     simp only at *
     subst hrx
     subst hry
     obtain ⟨b, off, rfl, hbB, u1⟩ := HX.out _ (Below.refl _ _) j1 hj1
     obtain ⟨b', off', e', hbB', u2⟩ := HX.out _ (Below.refl _ _) c1 hc1
     obtain ⟨rfl, rfl⟩ : b = b' ∧ off = off' := by simp at e'; exact e'
     obtain ⟨d, of2, rfl, hdB, v1⟩ := HY.out _ (Below.refl _ _) j2 hj2
     obtain ⟨d', of2', e2, hdB', v2⟩ := HY.out _ (Below.refl _ _) c2 hc2
     obtain ⟨rfl, rfl⟩ : d = d' ∧ of2 = of2' := by simp at e2; exact e2
     clear HX HY e' e2 hbB' hdB'
     generalize vx[j1] = p at *
     generalize vx[c1] = q at *
     generalize vy[j2] = p' at *
     generalize vy[c2] = q' at *
     obtain ⟨n, hn⟩ : ∃ n : Nat, vx.length = n := ⟨_, rfl⟩
     obtain ⟨m, hm⟩ : ∃ n : Nat, vy.length = n := ⟨_, rfl⟩
     rw [hn] at hj1 hc1 hmx hb hd ⊢
     rw [hm] at hj2 hc2 hmy hb' hd' ⊢
     clear hn hm
     obtain ⟨wx, hwx⟩ : ∃ wx, wx = ((w.alloc (Obj.cells #[.int .i64 rx, .int .i64 ry, .int .i64 j1, .int .i64 j2, .int .i64 c1, .int .i64 c2, .int .i64 cm] 59)).alloc (Obj.cells #[.int .i64 rx, .slice (some ⟨b, off, none⟩) n cx] 89)).alloc (Obj.cells #[.int .i64 ry, .slice (some ⟨d, of2, none⟩) m cy] 89) := ⟨_, rfl⟩
     have hb0 : Below w.heap.size w wx := by rw [hwx]; go_grown
     have a0_ : wx.cell? ⟨w.heap.size, 0, none⟩ = some (.int .i64 rx) := by rw [hwx]; go_simp
     have a1_ : wx.cell? ⟨w.heap.size, 1, none⟩ = some (.int .i64 ry) := by rw [hwx]; go_simp
     have a2_ : wx.cell? ⟨w.heap.size, 2, none⟩ = some (.int .i64 j1) := by rw [hwx]; go_simp
     have a3_ : wx.cell? ⟨w.heap.size, 3, none⟩ = some (.int .i64 j2) := by rw [hwx]; go_simp
     have a4_ : wx.cell? ⟨w.heap.size, 4, none⟩ = some (.int .i64 c1) := by rw [hwx]; go_simp
     have a5_ : wx.cell? ⟨w.heap.size, 5, none⟩ = some (.int .i64 c2) := by rw [hwx]; go_simp
     have a6_ : wx.cell? ⟨w.heap.size, 6, none⟩ = some (.int .i64 cm) := by rw [hwx]; go_simp
     have b0_ : wx.cell? ⟨w.heap.size + 1, 0, none⟩ = some (.int .i64 rx) := by rw [hwx]; go_simp
     have b1_ : wx.cell? ⟨w.heap.size + 1, 1, none⟩ = some (.slice (some ⟨b, off, none⟩) n cx) := by rw [hwx]; go_simp
     have d0_ : wx.cell? ⟨w.heap.size + 1 + 1, 0, none⟩ = some (.int .i64 ry) := by rw [hwx]; go_simp
     have d1_ : wx.cell? ⟨w.heap.size + 1 + 1, 1, none⟩ = some (.slice (some ⟨d, of2, none⟩) m cy) := by rw [hwx]; go_simp
     replace u1 := cell_next u1 hb0
     replace u2 := cell_next u2 hb0
     replace v1 := cell_next v1 hb0
     replace v2 := cell_next v2 hb0
     have Hwx := Lib.hid hwx
     clear hwx
     have Ga0_ := grow_cell a0_
     have Ga1_ := grow_cell a1_
     have Ga2_ := grow_cell a2_
     have Ga3_ := grow_cell a3_
     have Ga4_ := grow_cell a4_
     have Ga5_ := grow_cell a5_
     have Ga6_ := grow_cell a6_
     have Gb0_ := grow_cell b0_
     have Gb1_ := grow_cell b1_
     have Gd0_ := grow_cell d0_
     have Gd1_ := grow_cell d1_
     have Gu1 := grow_cell u1
     have Gu2 := grow_cell u2
     have Gv1 := grow_cell v1
     have Gv2 := grow_cell v2
     clear a0_ a1_ a2_ a3_ a4_ a5_ a6_ b0_ b1_ d0_ d1_ u1 u2 v1 v2
     have i1 : (0 : Int) ≤ (j1 : Int) := Int.natCast_nonneg _
     have i2 : (0 : Int) ≤ (j2 : Int) := Int.natCast_nonneg _
     have i3 : (0 : Int) ≤ (c1 : Int) := Int.natCast_nonneg _
     have i4 : (0 : Int) ≤ (c2 : Int) := Int.natCast_nonneg _
     by_cases hpp : p = p'
     · subst hpp
       rw [decide_eq_true rfl, Bool.true_and]
       go_enter Tryz.func115, Tryz.ntmps115
       go_wp2_with fail
       rw [← Hwx.out]
       clear Hwx
       refine wp_region_grow (by kernel_rfl) (by kernel_rfl) ?_
       repeat (go_big_quiet_step (fail))
       refine wpQuiet_nil ?_
       rintro _ ⟨nq, rfl⟩
       have hb1 := hb0.trans (nq.below.mono hb0.size)
       replace Ga0_ := grow_cell (Ga0_ nq)
       replace Ga1_ := grow_cell (Ga1_ nq)
       replace Ga2_ := grow_cell (Ga2_ nq)
       replace Ga3_ := grow_cell (Ga3_ nq)
       replace Ga4_ := grow_cell (Ga4_ nq)
       replace Ga5_ := grow_cell (Ga5_ nq)
       replace Ga6_ := grow_cell (Ga6_ nq)
       replace Gb0_ := grow_cell (Gb0_ nq)
       replace Gb1_ := grow_cell (Gb1_ nq)
       replace Gd0_ := grow_cell (Gd0_ nq)
       replace Gd1_ := grow_cell (Gd1_ nq)
       replace Gu1 := grow_cell (Gu1 nq)
       replace Gu2 := grow_cell (Gu2 nq)
       replace Gv1 := grow_cell (Gv1 nq)
       replace Gv2 := grow_cell (Gv2 nq)
       generalize nq.W = wy at *
       clear nq
       go_wp2_with fail
       refine wp_region_grow (by kernel_rfl) (by kernel_rfl) ?_
       repeat (go_big_quiet_step (fail))
       refine wpQuiet_nil ?_
       rintro _ ⟨nr, rfl⟩
       have hb2 := hb1.trans (nr.below.mono hb1.size)
       have k6 := Ga6_ nr
       by_cases hc2 : cm = 2
       · subst hc2
         go_wp2
         go_ret
         exact ⟨by first | rfl | simp, hb2⟩
       · have e2 : (cm == 2) = false := by simp [hc2]
         go_wp2
         go_ret
         exact ⟨by first | rfl | (simp [hc2]; done) | (simp [hc2]; rfl) | (simp [hc2, Bool.eq_iff_iff]; done), hb2⟩
     · have hne : (p != p') = true := by simp [hpp]
       rw [decide_eq_false hpp, Bool.false_and]
       go_enter Tryz.func115, Tryz.ntmps115
       go_wp2_with fail
       rw [← Hwx.out]
       clear Hwx
       refine wp_region_grow (by kernel_rfl) (by kernel_rfl) ?_
       repeat (go_big_quiet_step (fail))
       refine wpQuiet_nil ?_
       rintro _ ⟨nq, rfl⟩
       have hb1 := hb0.trans (nq.below.mono hb0.size)
       go_wp2
       go_ret
       exact ⟨rfl, hb1⟩
   · rw [decide_eq_true hrx, decide_eq_false hry, Bool.true_and, Bool.false_and]
     have hne : (y.rel != c.r2) = true := by simp [hry]
     have he : (x.rel != c.r1) = false := by simp [hrx]
     clear hx hy HX HY hrx hry
     obtain ⟨r1, r2, j1, j2, c1, c2, cm⟩ := c
     obtain ⟨rx, vx⟩ := x
     obtain ⟨ry, vy⟩ := y
     simp only at *
     generalize vx.length = n at *
     generalize vy.length = m at *
     go_enter Tryz.func115, Tryz.ntmps115
     go_wp2
     go_ret
     exact ⟨rfl, by go_grown⟩
 · rw [decide_eq_false hrx, Bool.false_and]
   have hne : (x.rel != c.r1) = true := by simp [hrx]
   clear hx hy HX HY hrx
   obtain ⟨r1, r2, j1, j2, c1, c2, cm⟩ := c
   obtain ⟨rx, vx⟩ := x
   obtain ⟨ry, vy⟩ := y
   simp only at *
   generalize vx.length = n at *
   generalize vy.length = m at *
   go_enter Tryz.func115, Tryz.ntmps115
   go_wp2
   go_ret
   exact ⟨rfl, by go_grown⟩
end
end Go.Proofs.YtgipcnofonejcaaGreatDoor
