/- Chapter 5: facts with one key are neighbours in a valid database. -/
import Derived.Test.YtjeenbjmhlbmfaaKey
import Derived.Test.YtjeenbjmhlbmfaaOrd
import Derived.Test.YtjeenbjmhlbmfaaBlk
import Derived.Test.YtjeenbjmhlbmfaaDbImpl
namespace Go.Proofs.Ytjeenbjmhlbmfaa
open Go.RowKit
set_option linter.unusedVariables false
set_option maxRecDepth 100000

theorem dbValid_fact {d : Dbs} (h : validDb d = true) (k : Nat) (hk : k < d.facts.length) : validFact d.rels d.facts[k] = true := by
  rw [validDb_eq] at h
  simp only [Bool.and_eq_true] at h
  exact List.all_eq_true.1 h.2.1 _ (List.getElem_mem hk)
theorem dbValid_len {d : Dbs} (h : validDb d = true) : d.facts.length ≤ 14 := by
  rw [validDb_eq] at h
  simp only [Bool.and_eq_true, decide_eq_true_eq] at h
  exact h.1.2
theorem ascF_adj : ∀ (l : List Fct) (p : Option Fct), ascF p l = true → ∀ i (h : i + 1 < l.length), cmpF l[i] l[i + 1] < 0
  | [], _, _, i, h => by simp at h
  | [x], _, _, i, h => by simp at h
  | x :: y :: l, p, h, i, hi => by
    simp only [ascF, Bool.and_eq_true] at h
    obtain ⟨_, h1, h2⟩ := h
    cases i with
    | zero =>
      simp only [okF] at h1
      simp at h1
      simpa using h1
    | succ i =>
      have := ascF_adj (y :: l) (some x) (by simp [ascF, h1, h2]) i (by simpa using hi)
      simpa using this
theorem asc_lt {l : List Fct} {p : Option Fct} (h : ascF p l = true) : ∀ (i m : Nat) (hi : i + m + 1 < l.length), cmpF l[i] l[i + m + 1] < 0
  | i, 0, hi => ascF_adj l p h i hi
  | i, m + 1, hi => cmpF_trans _ _ _ (asc_lt h i m (by omega)) (ascF_adj l p h (i + m + 1) (by omega))
/-- Two places of one key. -/
def keyR (d : Dbs) (i k : Nat) : Bool := match d.facts[i]?, d.facts[k]? with | some x, some y => sameKey d.rels x y | _, _ => false
theorem keyR_at {d : Dbs} {i k : Nat} (hi : i < d.facts.length) (hk : k < d.facts.length) : keyR d i k = sameKey d.rels d.facts[i] d.facts[k] := by
  unfold keyR
  rw [List.getElem?_eq_getElem hi, List.getElem?_eq_getElem hk]
theorem sameKey_iff (l : List Rel) (x y : Fct) : sameKey l x y = true ↔ x.rel = y.rel ∧ x.vals.take (keyN l x.rel) = y.vals.take (keyN l x.rel) := by
  unfold sameKey
  simp only [Bool.and_eq_true, decide_eq_true_eq]
theorem conv_db {d : Dbs} (h : validDb d = true) : Conv (keyR d) d.facts.length := by
  have hasc : ascF none d.facts = true := by
    have h2 := h
    rw [validDb_eq] at h2
    simp only [Bool.and_eq_true] at h2
    exact h2.2.2
  have hlt : ∀ i k (hi : i < k) (hk : k < d.facts.length), cmpF (d.facts[i]'(by omega)) d.facts[k] < 0 := by
    intro i k hi hk
    obtain ⟨m, rfl⟩ : ∃ m, k = i + m + 1 := ⟨k - i - 1, by omega⟩
    exact asc_lt hasc i m hk
  refine ⟨fun i hi => ?_, fun i j hi hj => ?_, fun i j k hi hj hk h1 h2 => ?_, fun i j k hij hjk hk h1 => ?_⟩
  · rw [keyR_at hi hi, sameKey_iff]; exact ⟨rfl, rfl⟩
  · rw [keyR_at hi hj, keyR_at hj hi]
    have : ∀ x y : Fct, sameKey d.rels x y = true → sameKey d.rels y x = true := fun x y hxy => by
      rw [sameKey_iff] at hxy ⊢
      exact ⟨hxy.1.symm, by rw [← hxy.1]; exact hxy.2.symm⟩
    cases h1 : sameKey d.rels d.facts[i] d.facts[j]
    · cases h2 : sameKey d.rels d.facts[j] d.facts[i]
      · rfl
      · rw [this _ _ h2] at h1; cases h1
    · exact (this _ _ h1).symm
  · rw [keyR_at hi hj, sameKey_iff] at h1
    rw [keyR_at hj hk, sameKey_iff] at h2
    rw [keyR_at hi hk, sameKey_iff]
    exact ⟨h1.1.trans h2.1, h1.2.trans (by rw [h1.1]; exact h2.2)⟩
  · have hi : i < d.facts.length := by omega
    have hj : j < d.facts.length := by omega
    rw [keyR_at hi hk, sameKey_iff] at h1
    rw [keyR_at hj hk, sameKey_iff]
    have c1 := hlt i j hij hj
    have c2 := hlt j k hjk hk
    have hr : d.facts[j].rel = d.facts[k].rel := by
      have e := h1.1
      unfold cmpF at c1 c2
      split at c1
      · split at c2
        · omega
        · split at c2 <;> omega
      · split at c1
        · omega
        · split at c2
          · omega
          · split at c2 <;> omega
    refine ⟨hr, ?_⟩
    have hri : d.facts[i].rel = d.facts[j].rel := h1.1.trans hr.symm
    have hl : ∀ a b (ha : a < d.facts.length) (hb : b < d.facts.length), d.facts[a].rel = d.facts[b].rel → d.facts[a].vals.length = d.facts[b].vals.length := by
      intro a b ha hb e
      obtain ⟨ka, _, hka, ea, _, _, _, _, aa⟩ := validFact_key (dbValid_fact h a ha)
      obtain ⟨kb, _, hkb, eb, _, _, _, _, ab⟩ := validFact_key (dbValid_fact h b hb)
      have : ka = kb := by omega
      subst this
      omega
    have d1 : cmpL d.facts[i].vals d.facts[j].vals ≤ 0 := by
      unfold cmpF at c1
      rw [if_neg (by omega), if_neg (by omega)] at c1
      omega
    have d2 : cmpL d.facts[j].vals d.facts[k].vals ≤ 0 := by
      unfold cmpF at c2
      rw [if_neg (by omega), if_neg (by omega)] at c2
      omega
    have := take_mid (keyN d.rels d.facts[i].rel) _ _ _ (hl i j hi hj hri) (hl j k hj hk hr) d1 d2 h1.2
    rw [hri] at this
    exact this
/-- Places as numbers. -/
def ints (l : List Nat) : List Int := l.map (fun n : Nat => (n : Int))
theorem ints_inR {l : List Nat} (h : ∀ x, x ∈ l → x < 14) : ∀ x, x ∈ ints l → inR x := by
  intro x hx
  obtain ⟨n, hn, rfl⟩ := List.mem_map.1 hx
  have := h n hn
  unfold inR
  omega
/-- The block of a place. -/
def blockL (d : Dbs) (i : Int) : List Int := if validDb d && inB i 0 ((d.facts.length : Int) - 1) then ints (blk (keyR d) d.facts.length i.toNat) else []
/-- All blocks. -/
def blocksL (d : Dbs) : List (List Int) := if validDb d then (blksI (keyR d) d.facts.length).map ints else []
end Go.Proofs.Ytjeenbjmhlbmfaa

