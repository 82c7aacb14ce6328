/- BlkOne: Blk BlkDb. -/
import Derived.Test.YtpcjhnbifgjleaaCodOne
import Derived.Test.YtpcjhnbifgjleaaKeyOne
/- Blocks of numbers under a relation: built one by one, and as the classes of their first members. -/
namespace Go.Proofs.Ytpcjhnbifgjleaa
set_option linter.unusedVariables false
/-- Numbers below n that stand with i. -/
def blk (R : Nat → Nat → Bool) (n i : Nat) : List Nat := (List.range n).filter (R i)
/-- No smaller number stands with i. -/
def isFst (R : Nat → Nat → Bool) (i : Nat) : Bool := (List.range i).all fun k => !R i k
def fsts (R : Nat → Nat → Bool) (n : Nat) : List Nat := (List.range n).filter (isFst R)
def blksS (R : Nat → Nat → Bool) (n : Nat) : List (List Nat) := (fsts R n).map (blk R n)
/-- The last list, one number longer. -/
def addLast (bs : List (List Nat)) (i : Nat) : List (List Nat) := bs.set (bs.length - 1) (bs.getD (bs.length - 1) [] ++ [i])
def joins (R : Nat → Nat → Bool) (i : Nat) : Bool := decide (0 < i) && R (i - 1) i
def blksI (R : Nat → Nat → Bool) : Nat → List (List Nat)
  | 0 => []
  | i + 1 => if joins R i then addLast (blksI R i) i else blksI R i ++ [[i]]
structure Conv (R : Nat → Nat → Bool) (N : Nat) : Prop where
  refl : ∀ i, i < N → R i i = true
  symm : ∀ i j, i < N → j < N → R i j = R j i
  trans : ∀ i j k, i < N → j < N → k < N → R i j = true → R j k = true → R i k = true
  mid : ∀ i j k, i < j → j < k → k < N → R i k = true → R j k = true
variable {R : Nat → Nat → Bool} {N : Nat}
theorem Conv.ofTrue (h : Conv R N) {i j k : Nat} (hi : i < N) (hj : j < N) (hk : k < N) (hjk : R j k = true) : R i j = R i k := by
  cases h1 : R i j
  · cases h2 : R i k
    · rfl
    · have := h.trans i k j hi hk hj h2 (by rw [h.symm k j hk hj]; exact hjk)
      rw [h1] at this; cases this
  · exact (h.trans i j k hi hj hk h1 hjk).symm
theorem Conv.none (h : Conv R N) {n : Nat} (hn : n < N) (hj : joins R n = false) : ∀ i, i < n → R i n = false := by
  intro i hi
  cases hR : R i n
  · rfl
  · have h0 : decide (0 < n) = true := decide_eq_true (by omega)
    unfold joins at hj
    rw [h0, Bool.true_and] at hj
    rcases Nat.lt_or_ge i (n - 1) with h1 | h1
    · rw [h.mid i (n - 1) n h1 (by omega) hn hR] at hj; cases hj
    · have : i = n - 1 := by omega
      subst this; rw [hR] at hj; cases hj
theorem fst_of_none (h : Conv R N) {n : Nat} (hn : n < N) (hj : joins R n = false) : isFst R n = true := by
  unfold isFst
  rw [List.all_eq_true]
  intro k hk
  have hk' := List.mem_range.1 hk
  rw [h.symm n k hn (by omega), h.none hn hj k hk']; rfl
theorem fst_of_joins (h : Conv R N) {n : Nat} (hn : n < N) (hj : joins R n = true) : isFst R n = false := by
  unfold joins at hj
  simp only [Bool.and_eq_true, decide_eq_true_eq] at hj
  unfold isFst
  rw [List.all_eq_false]
  exact ⟨n - 1, List.mem_range.2 (by omega), by rw [h.symm n (n - 1) hn (by omega), hj.2]; simp⟩
theorem fsts_succ (n : Nat) : fsts R (n + 1) = fsts R n ++ if isFst R n then [n] else [] := by
  unfold fsts
  rw [List.range_succ, List.filter_append]
  congr 1
  cases h : isFst R n <;> simp [h]
theorem fsts_lt {n i : Nat} (h : i ∈ fsts R n) : i < n := List.mem_range.1 (List.mem_filter.1 h).1
theorem fsts_last (h : Conv R N) : ∀ m, m < N → ∃ P f, fsts R (m + 1) = P ++ [f] ∧ R f m = true ∧ f ≤ m ∧ ∀ p, p ∈ P → R p m = false
  | 0, hm => ⟨[], 0, by simp [fsts, isFst], h.refl 0 hm, by omega, by simp⟩
  | m + 1, hm => by
    cases hj : joins R (m + 1)
    · refine ⟨fsts R (m + 1), m + 1, ?_, h.refl _ hm, by omega, fun p hp => h.none hm hj p (fsts_lt hp)⟩
      rw [fsts_succ, fst_of_none h hm hj]; rfl
    · obtain ⟨P, f, h1, h2, h3, h4⟩ := fsts_last h m (by omega)
      have hR : R m (m + 1) = true := by
        unfold joins at hj; simp only [Bool.and_eq_true] at hj; exact hj.2
      refine ⟨P, f, ?_, ?_, by omega, fun p hp => ?_⟩
      · rw [fsts_succ, fst_of_joins h hm hj, h1]; simp
      · rw [← h.ofTrue (by omega) (by omega) hm hR]; exact h2
      · have hp2 : p < m + 1 := fsts_lt (R := R) (by rw [h1]; simp [hp])
        rw [← h.ofTrue (by omega) (by omega) hm hR]; exact h4 p hp
theorem blk_succ (n i : Nat) : blk R (n + 1) i = blk R n i ++ if R i n then [n] else [] := by
  unfold blk
  rw [List.range_succ, List.filter_append]
  congr 1
  cases h : R i n <;> simp [h]
theorem blks_eq (h : Conv R N) : ∀ n, n ≤ N → blksI R n = blksS R n
  | 0, _ => by simp [blksI, blksS, fsts]
  | n + 1, hn => by
    have ih := blks_eq h n (by omega)
    unfold blksI
    rw [ih]
    unfold blksS
    cases hj : joins R n
    · simp only [Bool.false_eq_true, if_false]
      rw [fsts_succ, fst_of_none h (by omega) hj]
      simp only [if_true, List.map_append, List.map_cons, List.map_nil]
      congr 1
      · apply List.map_congr_left
        intro i hi
        rw [blk_succ, h.none (by omega) hj i (fsts_lt hi)]; simp
      · rw [blk_succ, h.refl n (by omega)]
        have : blk R n n = [] := by
          unfold blk
          rw [List.filter_eq_nil_iff]
          intro k hk
          have := List.mem_range.1 hk
          rw [h.symm n k (by omega) (by omega), h.none (by omega) hj k this]; simp
        rw [this]; simp
    · simp only [if_true]
      rw [fsts_succ, fst_of_joins h (by omega) hj]
      have hj' := hj
      unfold joins at hj
      simp only [Bool.and_eq_true, decide_eq_true_eq] at hj
      obtain ⟨m, rfl⟩ : ∃ m, n = m + 1 := ⟨n - 1, by omega⟩
      obtain ⟨P, f, h1, h2, h3, h4⟩ := fsts_last h m (by omega)
      have hR : R m (m + 1) = true := hj.2
      simp only [Bool.false_eq_true, if_false, List.append_nil]
      rw [h1]
      unfold addLast
      simp only [List.map_append, List.map_cons, List.map_nil, List.length_append, List.length_map, List.length_cons, List.length_nil, Nat.zero_add, Nat.add_sub_cancel]
      rw [List.getD_eq_getElem?_getD, List.getElem?_append_right (by simp), List.set_append_right _ _ (by simp)]
      simp only [List.length_map, Nat.sub_self, List.set_cons_zero, List.getElem?_cons_zero, Option.getD_some]
      congr 1
      · apply List.map_congr_left
        intro p hp
        have hp2 : p < m + 1 := fsts_lt (R := R) (by rw [h1]; simp [hp])
        rw [blk_succ (m + 1), ← h.ofTrue (by omega) (by omega) (by omega) hR, h4 p hp]; simp
      · rw [blk_succ (m + 1), ← h.ofTrue (by omega) (by omega) (by omega) hR, h2]; simp

/-- Each list of the blocks is the block of each of its numbers. -/
theorem blk_of_mem (h : Conv R N) {n : Nat} (hn : n ≤ N) {b : List Nat} (hb : b ∈ blksS R n) {i : Nat} (hi : i ∈ b) : i < n ∧ blk R n i = b := by
  unfold blksS at hb
  obtain ⟨f, hf, rfl⟩ := List.mem_map.1 hb
  have hfn := fsts_lt hf
  unfold blk at hi ⊢
  obtain ⟨hin, hR⟩ := List.mem_filter.1 hi
  have hin := List.mem_range.1 hin
  refine ⟨hin, List.filter_congr fun k hk => ?_⟩
  have hk := List.mem_range.1 hk
  rw [h.symm i k (by omega) (by omega), h.symm f k (by omega) (by omega)]
  exact (h.ofTrue (by omega) (by omega) (by omega) hR).symm
theorem addLast_flatten (bs : List (List Nat)) (i : Nat) (h : bs ≠ []) : (addLast bs i).flatten = bs.flatten ++ [i] := by
  obtain ⟨P, f, rfl⟩ : ∃ P f, bs = P ++ [f] := ⟨bs.dropLast, bs.getLast h, (List.dropLast_concat_getLast h).symm⟩
  unfold addLast
  simp
theorem blksI_ne {n : Nat} (h : 0 < n) : blksI R n ≠ [] := by
  cases n with
  | zero => omega
  | succ n =>
    unfold blksI
    split
    · rename_i hj
      unfold joins at hj
      simp only [Bool.and_eq_true, decide_eq_true_eq] at hj
      have := blksI_ne hj.1
      unfold addLast
      intro e
      have h2 := congrArg List.length e
      simp at h2
      exact this h2
    · simp
theorem blksI_flatten : ∀ n, (blksI R n).flatten = List.range n
  | 0 => rfl
  | n + 1 => by
    unfold blksI
    rw [List.range_succ]
    split
    · rename_i hj
      unfold joins at hj
      simp only [Bool.and_eq_true, decide_eq_true_eq] at hj
      rw [addLast_flatten _ _ (blksI_ne hj.1), blksI_flatten n]
    · rw [List.flatten_append, blksI_flatten n]; rfl
theorem flatten_filter {α : Type} (p : List α → Bool) (q : α → Bool) : ∀ bs : List (List α), (∀ b, b ∈ bs → ∀ i, i ∈ b → q i = p b) → (bs.filter p).flatten = bs.flatten.filter q
  | [], _ => rfl
  | b :: bs, h => by
    have ih := flatten_filter p q bs (fun c hc => h c (List.mem_cons_of_mem _ hc))
    rw [List.filter_cons, List.flatten_cons, List.filter_append, ← ih]
    cases hp : p b
    · have : b.filter q = [] := by
        rw [List.filter_eq_nil_iff]
        intro i hi
        rw [h b (by simp) i hi, hp]; simp
      simp [this]
    · have : b.filter q = b := by
        rw [List.filter_eq_self]
        intro i hi
        rw [h b (by simp) i hi, hp]
      simp [this]
/-- The numbers that stand with others. -/
theorem conf_eq (h : Conv R N) (n : Nat) (hn : n ≤ N) : ((blksI R n).filter fun b => decide (1 < b.length)).flatten = (List.range n).filter fun i => decide (1 < (blk R n i).length) := by
  rw [← blksI_flatten (R := R) n]
  refine flatten_filter _ _ _ fun b hb i hi => ?_
  rw [blks_eq h n hn] at hb
  rw [(blk_of_mem h hn hb hi).2]
/-- The block of a number, looked for among the blocks. -/
theorem find_blk (h : Conv R N) {n i : Nat} (hn : n ≤ N) (hi : i < n) : (blksI R n).find? (fun b => b.contains i) = some (blk R n i) := by
  have hm : i ∈ (blksI R n).flatten := by rw [blksI_flatten]; exact List.mem_range.2 hi
  obtain ⟨b, hb, hib⟩ := List.mem_flatten.1 hm
  cases hf : (blksI R n).find? (fun b => b.contains i) with
  | none =>
    have := List.find?_eq_none.1 hf b hb
    simp [hib] at this
  | some c =>
    have hc := List.find?_some hf
    have hcm := List.mem_of_find?_eq_some hf
    rw [blks_eq h n hn] at hcm
    rw [(blk_of_mem h hn hcm (by simpa using hc)).2]
theorem find_blk_none {n i : Nat} (hi : ¬ i < n) : (blksI R n).find? (fun b => b.contains i) = none := by
  rw [List.find?_eq_none]
  intro b hb hc
  have : i ∈ (blksI R n).flatten := List.mem_flatten.2 ⟨b, hb, by simpa using hc⟩
  rw [blksI_flatten] at this
  exact hi (List.mem_range.1 this)
theorem blksI_lt {n : Nat} {b : List Nat} (hb : b ∈ blksI R n) {i : Nat} (hi : i ∈ b) : i < n := by
  have : i ∈ (blksI R n).flatten := List.mem_flatten.2 ⟨b, hb, hi⟩
  rw [blksI_flatten] at this
  exact List.mem_range.1 this
/-- All blocks of one number: as many blocks as numbers. -/
theorem blksI_len : ∀ n, (blksI R n).length ≤ n
  | 0 => by simp [blksI]
  | n + 1 => by
    have := blksI_len n
    unfold blksI addLast
    split <;> simp <;> omega
theorem blks_pos (h : Conv R N) {n : Nat} (hn : n ≤ N) {b : List Nat} (hb : b ∈ blksI R n) : 1 ≤ b.length := by
  rw [blks_eq h n hn] at hb
  unfold blksS at hb
  obtain ⟨f, hf, rfl⟩ := List.mem_map.1 hb
  have hfn := fsts_lt hf
  have : f ∈ blk R n f := List.mem_filter.2 ⟨List.mem_range.2 hfn, h.refl f (by omega)⟩
  exact List.length_pos_of_mem this
theorem len_flat {α : Type} : ∀ bs : List (List α), (∀ b, b ∈ bs → 1 ≤ b.length) → bs.length ≤ bs.flatten.length ∧ ((bs.filter fun b => decide (1 < b.length)).flatten.length = 0 ↔ bs.length = bs.flatten.length)
  | [], _ => by simp
  | b :: bs, h => by
    have ih := len_flat bs (fun c hc => h c (List.mem_cons_of_mem _ hc))
    have hb := h b (by simp)
    rw [List.filter_cons, List.flatten_cons, List.length_append, List.length_cons]
    by_cases hp : 1 < b.length
    · rw [if_pos (by simpa using hp), List.flatten_cons, List.length_append]
      exact ⟨by omega, by omega⟩
    · rw [if_neg (by simpa using hp)]
      exact ⟨by omega, by rw [ih.2]; omega⟩
theorem consist_eq (h : Conv R N) (n : Nat) (hn : n ≤ N) : decide (((blksI R n).filter fun b => decide (1 < b.length)).flatten.length = 0) = decide ((blksI R n).length = n) := by
  have h1 := (len_flat (blksI R n) (fun b hb => blks_pos h hn hb)).2
  rw [blksI_flatten, List.length_range] at h1
  exact decide_eq_decide.2 h1
end Go.Proofs.Ytpcjhnbifgjleaa

/- Chapter 5: facts with one key are neighbours in a valid database. -/
namespace Go.Proofs.Ytpcjhnbifgjleaa
open Go.RowKit
set_option linter.unusedVariables false
set_option maxRecDepth 100000

theorem dbValid_fact {d : Dbs} (h : validDb d = true) (k : Nat) (hk : k < d.facts.length) : validFact d.rels d.facts[k] = true := by
  rw [validDb_eq] at h
  simp only [Bool.and_eq_true] at h
  exact List.all_eq_true.1 h.2.1 _ (List.getElem_mem hk)
theorem dbValid_len {d : Dbs} (h : validDb d = true) : d.facts.length ≤ 14 := by
  rw [validDb_eq] at h
  simp only [Bool.and_eq_true, decide_eq_true_eq] at h
  exact h.1.2
theorem ascF_adj : ∀ (l : List Fct) (p : Option Fct), ascF p l = true → ∀ i (h : i + 1 < l.length), cmpF l[i] l[i + 1] < 0
  | [], _, _, i, h => by simp at h
  | [x], _, _, i, h => by simp at h
  | x :: y :: l, p, h, i, hi => by
    simp only [ascF, Bool.and_eq_true] at h
    obtain ⟨_, h1, h2⟩ := h
    cases i with
    | zero =>
      simp only [okF] at h1
      simp at h1
      simpa using h1
    | succ i =>
      have := ascF_adj (y :: l) (some x) (by simp [ascF, h1, h2]) i (by simpa using hi)
      simpa using this
theorem asc_lt {l : List Fct} {p : Option Fct} (h : ascF p l = true) : ∀ (i m : Nat) (hi : i + m + 1 < l.length), cmpF l[i] l[i + m + 1] < 0
  | i, 0, hi => ascF_adj l p h i hi
  | i, m + 1, hi => cmpF_trans _ _ _ (asc_lt h i m (by omega)) (ascF_adj l p h (i + m + 1) (by omega))
/-- Two places of one key. -/
def keyR (d : Dbs) (i k : Nat) : Bool := match d.facts[i]?, d.facts[k]? with | some x, some y => sameKey d.rels x y | _, _ => false
theorem keyR_at {d : Dbs} {i k : Nat} (hi : i < d.facts.length) (hk : k < d.facts.length) : keyR d i k = sameKey d.rels d.facts[i] d.facts[k] := by
  unfold keyR
  rw [List.getElem?_eq_getElem hi, List.getElem?_eq_getElem hk]
theorem sameKey_iff (l : List Rel) (x y : Fct) : sameKey l x y = true ↔ x.rel = y.rel ∧ x.vals.take (keyN l x.rel) = y.vals.take (keyN l x.rel) := by
  unfold sameKey
  simp only [Bool.and_eq_true, decide_eq_true_eq]
theorem conv_db {d : Dbs} (h : validDb d = true) : Conv (keyR d) d.facts.length := by
  have hasc : ascF none d.facts = true := by
    have h2 := h
    rw [validDb_eq] at h2
    simp only [Bool.and_eq_true] at h2
    exact h2.2.2
  have hlt : ∀ i k (hi : i < k) (hk : k < d.facts.length), cmpF (d.facts[i]'(by omega)) d.facts[k] < 0 := by
    intro i k hi hk
    obtain ⟨m, rfl⟩ : ∃ m, k = i + m + 1 := ⟨k - i - 1, by omega⟩
    exact asc_lt hasc i m hk
  refine ⟨fun i hi => ?_, fun i j hi hj => ?_, fun i j k hi hj hk h1 h2 => ?_, fun i j k hij hjk hk h1 => ?_⟩
  · rw [keyR_at hi hi, sameKey_iff]; exact ⟨rfl, rfl⟩
  · rw [keyR_at hi hj, keyR_at hj hi]
    have : ∀ x y : Fct, sameKey d.rels x y = true → sameKey d.rels y x = true := fun x y hxy => by
      rw [sameKey_iff] at hxy ⊢
      exact ⟨hxy.1.symm, by rw [← hxy.1]; exact hxy.2.symm⟩
    cases h1 : sameKey d.rels d.facts[i] d.facts[j]
    · cases h2 : sameKey d.rels d.facts[j] d.facts[i]
      · rfl
      · rw [this _ _ h2] at h1; cases h1
    · exact (this _ _ h1).symm
  · rw [keyR_at hi hj, sameKey_iff] at h1
    rw [keyR_at hj hk, sameKey_iff] at h2
    rw [keyR_at hi hk, sameKey_iff]
    exact ⟨h1.1.trans h2.1, h1.2.trans (by rw [h1.1]; exact h2.2)⟩
  · have hi : i < d.facts.length := by omega
    have hj : j < d.facts.length := by omega
    rw [keyR_at hi hk, sameKey_iff] at h1
    rw [keyR_at hj hk, sameKey_iff]
    have c1 := hlt i j hij hj
    have c2 := hlt j k hjk hk
    have hr : d.facts[j].rel = d.facts[k].rel := by
      have e := h1.1
      unfold cmpF at c1 c2
      split at c1
      · split at c2
        · omega
        · split at c2 <;> omega
      · split at c1
        · omega
        · split at c2
          · omega
          · split at c2 <;> omega
    refine ⟨hr, ?_⟩
    have hri : d.facts[i].rel = d.facts[j].rel := h1.1.trans hr.symm
    have hl : ∀ a b (ha : a < d.facts.length) (hb : b < d.facts.length), d.facts[a].rel = d.facts[b].rel → d.facts[a].vals.length = d.facts[b].vals.length := by
      intro a b ha hb e
      obtain ⟨ka, _, hka, ea, _, _, _, _, aa⟩ := validFact_key (dbValid_fact h a ha)
      obtain ⟨kb, _, hkb, eb, _, _, _, _, ab⟩ := validFact_key (dbValid_fact h b hb)
      have : ka = kb := by omega
      subst this
      omega
    have d1 : cmpL d.facts[i].vals d.facts[j].vals ≤ 0 := by
      unfold cmpF at c1
      rw [if_neg (by omega), if_neg (by omega)] at c1
      omega
    have d2 : cmpL d.facts[j].vals d.facts[k].vals ≤ 0 := by
      unfold cmpF at c2
      rw [if_neg (by omega), if_neg (by omega)] at c2
      omega
    have := take_mid (keyN d.rels d.facts[i].rel) _ _ _ (hl i j hi hj hri) (hl j k hj hk hr) d1 d2 h1.2
    rw [hri] at this
    exact this
/-- Places as numbers. -/
def ints (l : List Nat) : List Int := l.map (fun n : Nat => (n : Int))
theorem ints_inR {l : List Nat} (h : ∀ x, x ∈ l → x < 14) : ∀ x, x ∈ ints l → inR x := by
  intro x hx
  obtain ⟨n, hn, rfl⟩ := List.mem_map.1 hx
  have := h n hn
  unfold inR
  omega
/-- The block of a place. -/
def blockL (d : Dbs) (i : Int) : List Int := if validDb d && inB i 0 ((d.facts.length : Int) - 1) then ints (blk (keyR d) d.facts.length i.toNat) else []
/-- All blocks. -/
def blocksL (d : Dbs) : List (List Int) := if validDb d then (blksI (keyR d) d.facts.length).map ints else []
end Go.Proofs.Ytpcjhnbifgjleaa

