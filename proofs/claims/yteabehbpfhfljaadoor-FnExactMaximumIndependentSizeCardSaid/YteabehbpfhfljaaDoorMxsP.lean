/- Chapter 8: all maximal independent sets: the model's walk and the program's: pure. -/
import Derived.Test.YteabehbpfhfljaaDoorMxsI
open Go Go.Proofs Go.RowKit
namespace Go.Proofs.YteabehbpfhfljaaDoor.Ab
set_option linter.unusedSimpArgs false
set_option linter.unusedVariables false
set_option maxRecDepth 100000
def metL (l : List Edg) (x : Int) : Bool := l.any fun e => decide (e.a = x) || decide (e.b = x)
def walkS (n : Nat) (l : List Edg) : Nat → List Int → List (List Int)
  | 0, s => if maxI (n : Int) l s = true then [s] else []
  | d + 1, s => (if fitsL l s ((n - (d + 1) : Nat) : Int) = true then walkS n l d (s ++ [((n - (d + 1) : Nat) : Int)]) else []) ++ (if metL l ((n - (d + 1) : Nat) : Int) = true then walkS n l d s else [])
theorem pw_ascI : ∀ (l : List Int) (p : Option Int), l.Pairwise (· < ·) → (∀ q, p = some q → ∀ x, x ∈ l → q < x) → ascI p l = true
  | [], _, _, _ => rfl
  | y :: l, p, h, hp => by
    rw [List.pairwise_cons] at h
    rw [ascI, pw_ascI l (some y) h.2 (fun q hq x hx => by injection hq with hq; rw [← hq]; exact h.1 x hx), Bool.and_true]
    cases p with
    | none => rfl
    | some q => have := hp q rfl y (by simp); simpa [okPI] using this
theorem outL_id (l : List Edg) (s : List Int) : ∀ i : Nat, (∀ x : Nat, x < i → fitsL l s (x : Int) = false) → outL l s i = s
  | 0, _ => rfl
  | i + 1, h => by
    rw [outL, outL_id l s i (fun x hx => h x (by omega)), if_neg]
    rw [h i (by omega)]
    simp
theorem met_eq {n : Nat} {l : List Edg} (hok : okN n l) (x : Nat) : metL l (x : Int) = true ↔ (grf n l).getD x 0 ≠ 0 := by
  unfold metL
  rw [List.any_eq_true]
  constructor
  · rintro ⟨e, he, h⟩ h0
    have h1 := hok e he
    simp only [Bool.or_eq_true, decide_eq_true_eq] at h
    rcases h with h | h
    · have h2 := grf_test hok x e.b.toNat
      rw [h0, Nat.zero_testBit] at h2
      have h3 : adjE l x e.b.toNat = true := by
        unfold adjE
        rw [List.any_eq_true]
        refine ⟨e, he, ?_⟩
        simp only [Bool.or_eq_true, Bool.and_eq_true, decide_eq_true_eq]
        omega
      rw [h3] at h2
      exact absurd h2 (by simp)
    · have h2 := grf_test hok x e.a.toNat
      rw [h0, Nat.zero_testBit] at h2
      have h3 : adjE l x e.a.toNat = true := by
        unfold adjE
        rw [List.any_eq_true]
        refine ⟨e, he, ?_⟩
        simp only [Bool.or_eq_true, Bool.and_eq_true, decide_eq_true_eq]
        omega
      rw [h3] at h2
      exact absurd h2 (by simp)
  · intro h
    apply Classical.byContradiction
    intro hno
    apply h
    apply Nat.eq_of_testBit_eq
    intro y
    rw [grf_test hok, Nat.zero_testBit, Bool.eq_false_iff]
    intro ha
    unfold adjE at ha
    rw [List.any_eq_true] at ha
    obtain ⟨e, he, h2⟩ := ha
    apply hno
    refine ⟨e, he, ?_⟩
    simp only [Bool.or_eq_true, Bool.and_eq_true, decide_eq_true_eq] at h2 ⊢
    omega
theorem ex_ok {n : Nat} {l : List Edg} {s : List Int} (hv : validE (n : Int) l = true) (hin : InS n l s (bitsI s)) (hp : s.Pairwise (· < ·)) : exOk (n : Int) l s = true := by
  unfold exOk setIx
  rw [hv, hin.ind, pw_ascI s none hp (fun q hq => by cases hq), Bool.and_true, Bool.and_true, Bool.true_and, List.all_eq_true]
  intro x hx
  have := hin.rng x hx
  unfold inB
  rw [Bool.and_eq_true, decide_eq_true_eq, decide_eq_true_eq]
  omega
theorem elems_bits {n : Nat} {l : List Edg} {s : List Int} (hn : n ≤ 14) (hin : InS n l s (bitsI s)) (hp : s.Pairwise (· < ·)) : elemsN 64 (bitsI s) = s := by
  rw [← sort_elems (by omega) hin]
  exact sortI_eq (List.Perm.refl s) (hp.imp fun h => by omega)
theorem max_ext {n : Nat} {l : List Edg} {s : List Int} (hn : n ≤ 14) (hok : okN n l) (hv : validE (n : Int) l = true) (hin : InS n l s (bitsI s)) (hp : s.Pairwise (· < ·)) : maxI (n : Int) l s = true ↔ extP (grf n l) (bitsI s) n = bitsI s := by
  rw [maxI_fits (ex_ok hv hin hp)]
  have he := ext_eq hok (by omega) hin n (Nat.le_refl _)
  constructor
  · intro h
    rw [he.bit, outL_id l s n h]
  · intro h
    have h1 := sort_elems (by omega) he
    have h2 := sort_elems (by omega) hin
    rw [h, ← h2] at h1
    refine (outL_same l s n).1 ?_
    rw [← (sortI_perm (outL l s n)).length_eq, ← (sortI_perm s).length_eq, h1]
theorem InS.put {n : Nat} {l : List Edg} {s : List Int} (hin : InS n l s (bitsI s)) {x : Nat} (hx : x < n) (hlt : ∀ y, y ∈ s → y < (x : Int)) (hf : fitsL l s (x : Int) = true) : InS n l (s ++ [(x : Int)]) (bitsI (s ++ [(x : Int)])) := by
  refine ⟨?_, ?_, ?_, rfl⟩
  · rw [List.nodup_append]
    refine ⟨hin.nd, by simp, fun a ha b hb => ?_⟩
    rw [List.mem_singleton] at hb
    have := hlt a ha
    omega
  · intro y hy
    rcases List.mem_append.1 hy with hy | hy
    · exact hin.rng y hy
    · rw [List.mem_singleton] at hy; omega
  · unfold fitsL at hf
    rw [Bool.and_eq_true] at hf
    exact hf.2
theorem walk_eq {n : Nat} {l : List Edg} (hn : n ≤ 14) (hok : okN n l) (hv : validE (n : Int) l = true) : ∀ (d x : Nat) (s : List Int), x + d = n → InS n l s (bitsI s) → (∀ y, y ∈ s → y < (x : Int)) → s.Pairwise (· < ·) → walkS n l d s = (walkB (grf n l) n d (bitsI s)).map (elemsN 64)
  | 0, x, s, hx, hin, hlt, hp => by
    have h := max_ext hn hok hv hin hp
    rw [walkS, walkB]
    by_cases hm : maxI (n : Int) l s = true
    · rw [if_pos hm, if_pos (h.1 hm), List.map_cons, List.map_nil, elems_bits hn hin hp]
    · rw [if_neg hm, if_neg (fun e => hm (h.2 e)), List.map_nil]
  | d + 1, x, s, hx, hin, hlt, hp => by
    have hxe : n - (d + 1) = x := by omega
    have hnc : s.contains (x : Int) = false := by
      rw [Bool.eq_false_iff]
      intro h
      have := hlt _ (List.contains_iff_mem.1 h)
      omega
    have hf := fits_free hok (by omega) hin (i := x) (by omega)
    rw [hnc] at hf
    have hf : fitsL l s (x : Int) = true ↔ (grf n l).getD x 0 &&& bitsI s = 0 := ⟨fun h => hf.1 (.inl h), fun h => (hf.2 h).elim id (fun h => by cases h)⟩
    have hme := met_eq hok x
    have ih2 := walk_eq hn hok hv d (x + 1) s (by omega) hin (fun y hy => by have := hlt y hy; omega) hp
    rw [walkS, walkB, hxe, List.map_append]
    congr 1
    · by_cases h1 : fitsL l s (x : Int) = true
      · rw [if_pos h1, if_pos (hf.1 h1)]
        have ih1 := walk_eq hn hok hv d (x + 1) (s ++ [(x : Int)]) (by omega) (hin.put (by omega) hlt h1) (fun y hy => by
          rcases List.mem_append.1 hy with hy | hy
          · have := hlt y hy; omega
          · rw [List.mem_singleton] at hy; omega) (by
          rw [List.pairwise_append]
          exact ⟨hp, by simp, fun a ha b hb => by rw [List.mem_singleton] at hb; rw [hb]; exact hlt a ha⟩)
        rw [ih1, bitsI_snoc]
        rfl
      · rw [if_neg h1, if_neg (fun e => h1 (hf.2 e)), List.map_nil]
    · by_cases h1 : metL l (x : Int) = true
      · rw [if_pos h1, if_pos (hme.1 h1), ih2]
      · rw [if_neg h1, if_neg (fun e => h1 (hme.2 e)), List.map_nil]
theorem walk_top {n : Nat} {l : List Edg} (hn : n ≤ 14) (hok : okN n l) (hv : validE (n : Int) l = true) : walkS n l n [] = (walkB (grf n l) n n 0).map (elemsN 64) := by
  have hind : indE l [] = true := by
    unfold indE
    rw [List.all_eq_true]
    intro e he
    simp
  exact walk_eq hn hok hv n 0 [] (by omega) ⟨by simp, by simp, hind, rfl⟩ (by simp) (by simp)
end Go.Proofs.YteabehbpfhfljaaDoor.Ab

