/- Chapter 8: conflict graphs as sets of bits; what an extension adds: pure. -/
import Derived.Test.YthkbmfpgdidfhabDoorCloOne
import Derived.Test.YthkbmfpgdidfhabDoorIndI
import Derived.Test.YthkbmfpgdidfhabDoorEdge1
import Derived.Test.YthkbmfpgdidfhabDoorSort
import Derived.Test.YthkbmfpgdidfhabDoorIx
open Go Go.Proofs Go.RowKit
namespace Go.Proofs.YthkbmfpgdidfhabDoor.Ab
set_option linter.unusedSimpArgs false
set_option linter.unusedVariables false
set_option maxRecDepth 100000
def addB (G : List Nat) (v u : Nat) : List Nat := G.set v (G.getD v 0 ||| 2 ^ u)
def gr (G : List Nat) (e : Edg) : List Nat := addB (addB G e.a.toNat e.b.toNat) e.b.toNat e.a.toNat
/-- The neighbours of each of n vertices. -/
def grf (n : Nat) (l : List Edg) : List Nat := l.foldl gr (List.replicate n 0)
def okN (n : Nat) (l : List Edg) : Prop := ∀ e, e ∈ l → 0 ≤ e.a ∧ e.a < e.b ∧ e.b < (n : Int)
theorem addB_len (G : List Nat) (v u : Nat) : (addB G v u).length = G.length := by unfold addB; rw [List.length_set]
theorem gr_len (G : List Nat) (e : Edg) : (gr G e).length = G.length := by unfold gr; rw [addB_len, addB_len]
theorem grf_snoc (n : Nat) (l : List Edg) (e : Edg) : grf n (l ++ [e]) = gr (grf n l) e := by
  unfold grf
  rw [List.foldl_append]
  rfl
theorem foldgr_len (l : List Edg) : ∀ G : List Nat, (l.foldl gr G).length = G.length := by
  induction l with
  | nil => intro G; rfl
  | cons e l ih => intro G; rw [List.foldl_cons, ih, gr_len]
theorem grf_len (n : Nat) (l : List Edg) : (grf n l).length = n := by
  unfold grf
  rw [foldgr_len, List.length_replicate]
theorem addB_test (G : List Nat) {v : Nat} (u x y : Nat) (hv : v < G.length) : ((addB G v u).getD x 0).testBit y = ((G.getD x 0).testBit y || (decide (x = v) && decide (y = u))) := by
  unfold addB
  by_cases hx : x = v
  · subst hx
    rw [List.getD_eq_getElem?_getD, List.getElem?_set_self hv, Option.getD_some, Nat.testBit_or, Nat.testBit_two_pow, decide_eq_true rfl, Bool.true_and]
    congr 1
    rw [Bool.eq_iff_iff, decide_eq_true_eq, decide_eq_true_eq]
    exact eq_comm
  · rw [List.getD_eq_getElem?_getD, List.getElem?_set_ne (fun e => hx e.symm), ← List.getD_eq_getElem?_getD, decide_eq_false hx]
    simp
/-- Is there an edge between the two? -/
def adjE (l : List Edg) (x y : Nat) : Bool := l.any fun e => (decide (e.a = (x : Int)) && decide (e.b = (y : Int))) || (decide (e.b = (x : Int)) && decide (e.a = (y : Int)))
theorem foldgr_test {n : Nat} : ∀ (l : List Edg) (G : List Nat), okN n l → G.length = n → ∀ x y, ((l.foldl gr G).getD x 0).testBit y = ((G.getD x 0).testBit y || adjE l x y)
  | [], G, _, _, x, y => by simp [adjE]
  | e :: l, G, h, hn, x, y => by
    obtain ⟨h1, h2, h3⟩ := h e (by simp)
    rw [List.foldl_cons, foldgr_test l (gr G e) (fun z hz => h z (List.mem_cons_of_mem _ hz)) (by rw [gr_len, hn])]
    unfold gr
    rw [addB_test _ _ _ _ (by rw [addB_len]; omega), addB_test _ _ _ _ (by omega)]
    unfold adjE
    rw [List.any_cons, Bool.or_assoc, Bool.or_assoc]
    congr 1
    rw [← Bool.or_assoc]
    congr 1
    rw [Bool.eq_iff_iff]
    simp only [Bool.or_eq_true, Bool.and_eq_true, decide_eq_true_eq]
    omega
theorem grf_test {n : Nat} {l : List Edg} (h : okN n l) (x y : Nat) : ((grf n l).getD x 0).testBit y = adjE l x y := by
  unfold grf
  rw [foldgr_test l _ h (by rw [List.length_replicate])]
  have : (List.replicate n 0).getD x 0 = 0 := by
    rw [List.getD_eq_getElem?_getD, List.getElem?_replicate]
    split <;> rfl
  rw [this, Nat.zero_testBit, Bool.false_or]
theorem adj_in {n : Nat} {l : List Edg} (h : okN n l) {x y : Nat} (ha : adjE l x y = true) : x < n ∧ y < n ∧ x ≠ y := by
  unfold adjE at ha
  rw [List.any_eq_true] at ha
  obtain ⟨e, he, h2⟩ := ha
  have := h e he
  simp only [Bool.or_eq_true, Bool.and_eq_true, decide_eq_true_eq] at h2
  omega
theorem grf_lt {n : Nat} {l : List Edg} (h : okN n l) (hn : n ≤ 64) (x : Nat) : (grf n l).getD x 0 < 18446744073709551616 := by
  apply Nat.lt_pow_two_of_testBit (n := 64)
  intro i hi
  rw [grf_test h, Bool.eq_false_iff]
  intro ha
  have := adj_in h ha
  omega
/-- The first i vertices offered, one after the other. -/
def extP (G : List Nat) (S : Nat) : Nat → Nat
  | 0 => S
  | i + 1 => if G.getD i 0 &&& extP G S i = 0 then extP G S i ||| 2 ^ i else extP G S i
theorem extP_lt {G : List Nat} {S : Nat} (hS : S < 18446744073709551616) : ∀ i, i ≤ 64 → extP G S i < 18446744073709551616
  | 0, _ => hS
  | i + 1, h => by
    have ih := extP_lt (G := G) hS i (by omega)
    rw [extP]
    split
    · exact or_lt _ _ ih (pow_lt i (by omega))
    · exact ih
def fitsL (l : List Edg) (s : List Int) (x : Int) : Bool := !s.contains x && indE l (s ++ [x])
def outL (l : List Edg) (s : List Int) : Nat → List Int
  | 0 => s
  | i + 1 => if fitsL l (outL l s i) (i : Int) = true then outL l s i ++ [(i : Int)] else outL l s i
theorem outL_len (l : List Edg) (s : List Int) : ∀ i, (outL l s i).length ≤ s.length + i
  | 0 => Nat.le_refl _
  | i + 1 => by
    have := outL_len l s i
    rw [outL]
    split
    · rw [List.length_append, List.length_singleton]; omega
    · omega
/-- A set of vertices without a conflict, and its bits. -/
structure InS (n : Nat) (l : List Edg) (s : List Int) (S : Nat) : Prop where
  nd : s.Nodup
  rng : ∀ x, x ∈ s → 0 ≤ x ∧ x < (n : Int)
  ind : indE l s = true
  bit : S = bitsI s
theorem InS.in64 {n : Nat} {l : List Edg} {s : List Int} {S : Nat} (h : InS n l s S) (hn : n ≤ 64) : in64 s := fun x hx => by have := h.rng x hx; omega
theorem fits_free {n : Nat} {l : List Edg} {s : List Int} {S : Nat} (hl : okN n l) (hn : n ≤ 64) (h : InS n l s S) {i : Nat} (hi : i < n) : (fitsL l s (i : Int) = true ∨ s.contains (i : Int) = true) ↔ (grf n l).getD i 0 &&& S = 0 := by
  have hb : ∀ y : Nat, S.testBit y = s.contains (y : Int) := fun y => by rw [h.bit, bitsI_test s (h.in64 hn)]
  have hz : ((grf n l).getD i 0 &&& S = 0) ↔ ∀ y : Nat, adjE l i y = true → s.contains (y : Int) = false := by
    constructor
    · intro e y hy
      have e2 := congrArg (fun z => Nat.testBit z y) e
      simp only [Nat.testBit_and, Nat.zero_testBit, grf_test hl, hb, hy, Bool.true_and] at e2
      exact e2
    · intro e
      apply Nat.eq_of_testBit_eq
      intro y
      rw [Nat.testBit_and, Nat.zero_testBit, grf_test hl, hb]
      cases ha : adjE l i y with
      | false => rfl
      | true => rw [e y ha]; rfl
  have hind := h.ind
  unfold indE at hind
  rw [List.all_eq_true] at hind
  rw [hz]
  have key : (∀ y : Nat, adjE l i y = true → s.contains (y : Int) = false) ↔ (∀ e, e ∈ l → (e.a = (i : Int) → s.contains e.b = false) ∧ (e.b = (i : Int) → s.contains e.a = false)) := by
    constructor
    · intro hy e he
      have h0 := hl e he
      constructor
      · intro h1
        have := hy e.b.toNat (by
          unfold adjE
          rw [List.any_eq_true]
          refine ⟨e, he, ?_⟩
          simp only [Bool.or_eq_true, Bool.and_eq_true, decide_eq_true_eq]
          omega)
        rwa [Int.toNat_of_nonneg (by omega)] at this
      · intro h1
        have := hy e.a.toNat (by
          unfold adjE
          rw [List.any_eq_true]
          refine ⟨e, he, ?_⟩
          simp only [Bool.or_eq_true, Bool.and_eq_true, decide_eq_true_eq]
          omega)
        rwa [Int.toNat_of_nonneg (by omega)] at this
    · intro he y hy
      unfold adjE at hy
      rw [List.any_eq_true] at hy
      obtain ⟨e, hel, h1⟩ := hy
      simp only [Bool.or_eq_true, Bool.and_eq_true, decide_eq_true_eq] at h1
      rcases h1 with ⟨h1, h2⟩ | ⟨h1, h2⟩
      · rw [← h2]; exact (he e hel).1 h1
      · rw [← h2]; exact (he e hel).2 h1
  rw [key]
  constructor
  · rintro (h1 | h1) e he
    · unfold fitsL indE at h1
      simp only [Bool.and_eq_true, Bool.not_eq_true', List.all_eq_true] at h1
      have h2 := h1.2 e he
      have h0 := hl e he
      have e3 : ∀ x : Int, (s ++ [(i : Int)]).contains x = (s.contains x || decide (x = (i : Int))) := fun x => by
        rw [Bool.eq_iff_iff]
        simp only [List.contains_iff_mem, List.mem_append, List.mem_singleton, Bool.or_eq_true, decide_eq_true_eq]
      rw [e3, e3] at h2
      constructor
      · intro h4
        rw [decide_eq_true h4] at h2
        cases hc : s.contains e.b with
        | false => rfl
        | true => rw [hc] at h2; simp at h2
      · intro h4
        rw [decide_eq_true h4] at h2
        cases hc : s.contains e.a with
        | false => rfl
        | true => rw [hc] at h2; simp at h2
    · have h2 := hind e he
      constructor
      · intro h4
        rw [h4, h1] at h2
        simpa using h2
      · intro h4
        rw [h4, h1] at h2
        simpa using h2
  · intro he
    cases hc : s.contains (i : Int) with
    | true => exact .inr rfl
    | false =>
      left
      unfold fitsL indE
      rw [hc]
      simp only [Bool.not_false, Bool.true_and, List.all_eq_true]
      intro e hel
      have h2 := hind e hel
      have h3 := he e hel
      have h0 := hl e hel
      have e3 : ∀ x : Int, (s ++ [(i : Int)]).contains x = (s.contains x || decide (x = (i : Int))) := fun x => by
        rw [Bool.eq_iff_iff]
        simp only [List.contains_iff_mem, List.mem_append, List.mem_singleton, Bool.or_eq_true, decide_eq_true_eq]
      rw [e3, e3]
      by_cases ha : e.a = (i : Int)
      · rw [h3.1 ha, decide_eq_false (by omega : ¬ e.b = (i : Int))]
        simp
      · by_cases hb2 : e.b = (i : Int)
        · rw [h3.2 hb2, decide_eq_false ha]
          simp
        · rw [decide_eq_false ha, decide_eq_false hb2, Bool.or_false, Bool.or_false]
          exact h2
theorem or_self_bit {S i : Nat} (h : S.testBit i = true) : S ||| 2 ^ i = S := by
  apply Nat.eq_of_testBit_eq
  intro j
  rw [Nat.testBit_or, Nat.testBit_two_pow]
  by_cases e : i = j
  · subst e; rw [h]; rfl
  · rw [decide_eq_false e, Bool.or_false]
theorem ext_eq {n : Nat} {l : List Edg} {s : List Int} {S : Nat} (hl : okN n l) (hn : n ≤ 64) (h : InS n l s S) : ∀ i, i ≤ n → InS n l (outL l s i) (extP (grf n l) S i)
  | 0, _ => h
  | i + 1, hi => by
    have ih := ext_eq hl hn h i (by omega)
    have hf := fits_free hl hn ih (i := i) (by omega)
    rw [outL, extP]
    by_cases hc : (outL l s i).contains (i : Int) = true
    · have hfit : ¬ fitsL l (outL l s i) (i : Int) = true := by unfold fitsL; rw [hc]; simp
      rw [if_neg hfit, if_pos (hf.1 (.inr hc)), or_self_bit (by rw [ih.bit, bitsI_test _ (ih.in64 hn)]; exact hc)]
      exact ih
    · by_cases hfit : fitsL l (outL l s i) (i : Int) = true
      · rw [if_pos hfit, if_pos (hf.1 (.inl hfit))]
        refine ⟨?_, ?_, ?_, ?_⟩
        · rw [List.nodup_append]
          refine ⟨ih.nd, by simp, fun a ha b hb => ?_⟩
          rw [List.mem_singleton] at hb
          rintro rfl
          rw [hb] at ha
          exact hc (List.contains_iff_mem.2 ha)
        · intro x hx
          rcases List.mem_append.1 hx with hx | hx
          · exact ih.rng x hx
          · rw [List.mem_singleton] at hx; omega
        · unfold fitsL at hfit
          rw [Bool.and_eq_true] at hfit
          exact hfit.2
        · rw [bitsI_snoc, ← ih.bit]
          rfl
      · rw [if_neg hfit, if_neg (fun e => (hf.2 e).elim hfit hc)]
        exact ih
theorem elems_sorted (n b : Nat) : (elemsN n b).Pairwise (· < ·) := by
  unfold elemsN
  rw [List.pairwise_map]
  exact ((List.pairwise_lt_range (n := n)).filter _).imp (fun h => by omega)
theorem sort_elems {n : Nat} {l : List Edg} {s : List Int} {S : Nat} (hn : n ≤ 64) (h : InS n l s S) : sortI s = elemsN 64 S := by
  refine sortI_eq ?_ ((elems_sorted 64 S).imp (fun h => by omega))
  refine (List.perm_ext_iff_of_nodup ((elems_sorted 64 S).imp (fun h => by omega)) h.nd).2 (fun x => ?_)
  rw [elems_mem]
  constructor
  · rintro ⟨v, h1, h2, rfl⟩
    rw [h.bit, bitsI_test s (h.in64 hn)] at h2
    exact List.contains_iff_mem.1 h2
  · intro hx
    have h1 := h.rng x hx
    refine ⟨x.toNat, by omega, ?_, by omega⟩
    rw [h.bit, bitsI_test s (h.in64 hn), Int.toNat_of_nonneg h1.1]
    exact List.contains_iff_mem.2 hx
theorem outL_grow (l : List Edg) (s : List Int) : ∀ i, s.length ≤ (outL l s i).length
  | 0 => Nat.le_refl _
  | i + 1 => by
    have := outL_grow l s i
    rw [outL]
    split
    · rw [List.length_append]; omega
    · exact this
/-- Nothing is added exactly if none fits the set itself. -/
theorem outL_same (l : List Edg) (s : List Int) : ∀ i, (outL l s i).length = s.length ↔ ∀ x, x < i → fitsL l s (x : Int) = false
  | 0 => by simp [outL]
  | i + 1 => by
    have ih := outL_same l s i
    have hg := outL_grow l s i
    rw [outL]
    constructor
    · intro h x hx
      split at h
      · rw [List.length_append, List.length_singleton] at h; omega
      · rename_i hf
        have h2 := ih.1 h
        by_cases hxi : x < i
        · exact h2 x hxi
        · have e : x = i := by omega
          subst e
          have e2 : ∀ j, j ≤ x → outL l s j = s := by
            intro j
            induction j with
            | zero => intro _; rfl
            | succ j ihj =>
              intro hj
              rw [outL, ihj (by omega), if_neg]
              rw [h2 j (by omega)]
              simp
          rw [e2 x (Nat.le_refl _)] at hf
          simpa using hf
    · intro h
      have e2 : ∀ j, j ≤ i → outL l s j = s := by
        intro j
        induction j with
        | zero => intro _; rfl
        | succ j ihj =>
          intro hj
          rw [outL, ihj (by omega), if_neg]
          rw [h j (by omega)]
          simp
      rw [e2 i (Nat.le_refl _), if_neg]
      rw [h i (by omega)]
      simp
/-- Is the question answered? -/
def exOk (n : Int) (l : List Edg) (s : List Int) : Bool := validE n l && (setIx n s && indE l s)
def exL (n : Int) (l : List Edg) (s : List Int) : List Int := if exOk n l s = true then elemsN 64 (extP (grf n.toNat l) (bitsI s) n.toNat) else []
theorem ascI_pw : ∀ (l : List Int) (p : Option Int), ascI p l = true → l.Pairwise (· < ·) ∧ ∀ q, p = some q → ∀ x, x ∈ l → q < x
  | [], _, _ => ⟨List.Pairwise.nil, fun _ _ x hx => by simp at hx⟩
  | y :: l, p, h => by
    simp only [ascI, Bool.and_eq_true] at h
    have ih := ascI_pw l (some y) h.2
    have h1 : ∀ q, p = some q → q < y := fun q hq => by
      have h0 := h.1
      subst hq
      simpa [okPI] using h0
    refine ⟨List.Pairwise.cons (fun x hx => ih.2 y rfl x hx) ih.1, fun q hq x hx => ?_⟩
    rcases List.mem_cons.1 hx with rfl | hx
    · exact h1 q hq
    · have := ih.2 y rfl x hx
      have := h1 q hq
      omega
theorem ex_facts {n : Int} {l : List Edg} {s : List Int} (h : exOk n l s = true) : validE n l = true ∧ setIx n s = true ∧ indE l s = true ∧ ∃ m : Nat, n = (m : Int) ∧ m ≤ 14 ∧ okN m l ∧ InS m l s (bitsI s) := by
  unfold exOk at h
  simp only [Bool.and_eq_true] at h
  obtain ⟨h1, h2, h3⟩ := h
  refine ⟨h1, h2, h3, n.toNat, ?_⟩
  have h4 := h1
  unfold validE inB at h4
  simp only [Bool.and_eq_true, decide_eq_true_eq, List.all_eq_true] at h4
  have h5 := h2
  unfold setIx at h5
  simp only [Bool.and_eq_true, List.all_eq_true] at h5
  have hr : ∀ x, x ∈ s → 0 ≤ x ∧ x < (n.toNat : Int) := fun x hx => by
    have := h5.1 x hx
    unfold inB at this
    simp only [Bool.and_eq_true, decide_eq_true_eq] at this
    omega
  have hpw := (ascI_pw s none h5.2).1
  have hok : okN n.toNat l := fun e he => by
    have := h4.2.1 e he
    unfold okE at this
    simp only [Bool.and_eq_true, decide_eq_true_eq] at this
    omega
  exact ⟨by omega, by omega, hok, ⟨hpw.imp (fun h => by omega), hr, h3, rfl⟩⟩
end Go.Proofs.YthkbmfpgdidfhabDoor.Ab

