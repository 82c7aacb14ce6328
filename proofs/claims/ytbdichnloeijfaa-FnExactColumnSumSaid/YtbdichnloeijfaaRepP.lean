/- Chapters 5 and 7: partial repairs, repairs and their ranks, in plain words. -/
import Derived.Test.YtbdichnloeijfaaBlockTwo
import Derived.Test.YtbdichnloeijfaaIx
namespace Go.Proofs.Ytbdichnloeijfaa
open Go.RowKit
set_option linter.unusedVariables false
set_option maxRecDepth 100000

/-- The facts at these places. -/
def selF (d : Dbs) (l : List Int) : List Fct := l.filterMap fun i => d.facts[i.toNat]?
def selOk (d : Dbs) (l : List Int) : Bool := validDb d && setIx d.facts.length l
/-- What SelectFacts hands back. -/
def selD (d : Dbs) (l : List Int) : Dbs := if selOk d l then ⟨d.rels, selF d l⟩ else ⟨[], []⟩
def partialR (d : Dbs) (l : List Int) : Bool := selOk d l && consistent (selD d l)
def isRepair (d : Dbs) (l : List Int) : Bool := partialR d l && decide (l.length = (blocksL d).length)
theorem setIx_in {n : Int} {l : List Int} (h : setIx n l = true) : ∀ x, x ∈ l → 0 ≤ x ∧ x < n := by
  intro x hx
  unfold setIx at h
  simp only [Bool.and_eq_true] at h
  have := List.all_eq_true.1 h.1 x hx
  unfold inB at this
  simp only [Bool.and_eq_true, decide_eq_true_eq] at this
  omega
theorem ascI_pw : ∀ (l : List Int) (p : Option Int), ascI p l = true → l.Pairwise (· < ·) ∧ ∀ q, p = some q → ∀ x, x ∈ l → q < x
  | [], p, _ => ⟨List.Pairwise.nil, by simp⟩
  | x :: l, p, h => by
    simp only [ascI, Bool.and_eq_true] at h
    obtain ⟨h1, h2⟩ := ascI_pw l (some x) h.2
    refine ⟨List.pairwise_cons.2 ⟨h2 x rfl, h1⟩, ?_⟩
    rintro q rfl y hy
    have hq : q < x := by simpa [okPI] using h.1
    rcases List.mem_cons.1 hy with rfl | hy
    · exact hq
    · have := h2 x rfl y hy; omega
theorem setIx_pw {n : Int} {l : List Int} (h : setIx n l = true) : l.Pairwise (· < ·) := by
  unfold setIx at h
  simp only [Bool.and_eq_true] at h
  exact (ascI_pw l none h.2).1
theorem setIx_len {n : Nat} {l : List Int} (h : setIx (n : Int) l = true) : l.length ≤ n := by
  have h1 := setIx_in h
  have h2 := setIx_pw h
  clear h
  suffices H : ∀ (l : List Int) (m : Int), (∀ x, x ∈ l → m ≤ x ∧ x < n) → l.Pairwise (· < ·) → l ≠ [] → (l.length : Int) ≤ n - m by
    cases hl : l with
    | nil => simp
    | cons x t => have := H l 0 h1 h2 (by rw [hl]; simp); rw [hl] at this; omega
  intro l
  induction l with
  | nil => intro m _ _ h; exact absurd rfl h
  | cons x t ih =>
    intro m h1 h2 _
    obtain ⟨h3, h4⟩ := List.pairwise_cons.1 h2
    have hx := h1 x (by simp)
    cases ht : t with
    | nil => simp; omega
    | cons y t2 =>
      have := ih (x + 1) (fun z hz => ⟨by have := h3 z hz; omega, (h1 z (by simp [hz])).2⟩) h4 (by rw [ht]; simp)
      rw [ht] at this
      simp only [List.length_cons] at this ⊢
      omega
theorem selF_nil (d : Dbs) : selF d [] = [] := rfl
theorem selF_snoc (d : Dbs) (l : List Int) (k : Nat) (hk : k < l.length) (p : Nat) (hp : p < d.facts.length) (e : l[k] = (p : Int)) : selF d (l.take (k + 1)) = selF d (l.take k) ++ [d.facts[p]] := by
  unfold selF
  rw [List.take_succ_eq_append_getElem hk, List.filterMap_append, e]
  simp [hp]
theorem selF_len (d : Dbs) (l : List Int) (h : ∀ x, x ∈ l → 0 ≤ x ∧ x < (d.facts.length : Int)) : (selF d l).length = l.length := by
  induction l with
  | nil => rfl
  | cons x t ih =>
    have hx := h x (by simp)
    have := ih (fun y hy => h y (by simp [hy]))
    unfold selF at *
    rw [List.filterMap_cons, List.getElem?_eq_getElem (by omega : x.toNat < d.facts.length)]
    simp only [List.length_cons]
    omega
theorem selF_get (d : Dbs) (l : List Int) (h : ∀ x, x ∈ l → 0 ≤ x ∧ x < (d.facts.length : Int)) : ∀ k : Nat, (selF d l)[k]? = (l[k]?).bind fun i : Int => d.facts[i.toNat]? := by
  induction l with
  | nil => intro k; simp [selF]
  | cons x t ih =>
    intro k
    have hx := h x (by simp)
    have h2 := ih (fun y hy => h y (by simp [hy]))
    unfold selF at *
    have hg : d.facts[x.toNat]? = some d.facts[x.toNat] := List.getElem?_eq_getElem (by omega)
    rw [List.filterMap_cons, hg]
    cases k with
    | zero => simp [hg]
    | succ k => simpa using h2 k

/-- One of each. -/
def picks : List (List Nat) → List Nat → Prop
  | [], [] => True
  | b :: bs, x :: L => x ∈ b ∧ picks bs L
  | _, _ => False
theorem picks_of : ∀ (bs : List (List Nat)) (L : List Nat), bs.flatten.Pairwise (· < ·) → L.Pairwise (· < ·) → (∀ x, x ∈ L → x ∈ bs.flatten) → (∀ b, b ∈ bs → ∀ x y, x ∈ L → y ∈ L → x ∈ b → y ∈ b → x = y) → L.length ≤ bs.length ∧ (L.length = bs.length → picks bs L)
  | [], L, _, _, h3, _ => by
    cases L with
    | nil => exact ⟨Nat.le_refl _, fun _ => trivial⟩
    | cons x t => have := h3 x (by simp); simp at this
  | b :: bs, [], _, _, _, _ => ⟨Nat.zero_le _, fun h => by simp at h⟩
  | b :: bs, x :: t, h1, h2, h3, h4 => by
    rw [List.flatten_cons] at h1 h3
    obtain ⟨_, hbs, hc⟩ := List.pairwise_append.1 h1
    obtain ⟨hx, ht⟩ := List.pairwise_cons.1 h2
    by_cases hb : x ∈ b
    · have hsub : ∀ y, y ∈ t → y ∈ bs.flatten := by
        intro y hy
        rcases List.mem_append.1 (h3 y (by simp [hy])) with h | h
        · have := h4 b (by simp) x y (by simp) (by simp [hy]) hb h
          have := hx y hy
          omega
        · exact h
      obtain ⟨i1, i2⟩ := picks_of bs t hbs ht hsub (fun c hc x' y' hx' hy' => h4 c (by simp [hc]) x' y' (by simp [hx']) (by simp [hy']))
      exact ⟨by simp; omega, fun h => ⟨hb, i2 (by simpa using h)⟩⟩
    · have hsub : ∀ y, y ∈ x :: t → y ∈ bs.flatten := by
        have hxf : x ∈ bs.flatten := by
          rcases List.mem_append.1 (h3 x (by simp)) with h | h
          · exact absurd h hb
          · exact h
        intro y hy
        rcases List.mem_append.1 (h3 y hy) with h | h
        · have h5 := hc y h x hxf
          rcases List.mem_cons.1 hy with rfl | hy
          · exact hxf
          · have := hx y hy; omega
        · exact h
      obtain ⟨i1, i2⟩ := picks_of bs (x :: t) hbs h2 hsub (fun c hc => h4 c (by simp [hc]))
      refine ⟨by simp at *; omega, fun h => ?_⟩
      simp at h i1
      omega
theorem range_pw (n : Nat) : (List.range n).Pairwise (· < ·) := List.pairwise_lt_range
/-- A consistent selection takes no two facts of one block. -/
theorem sel_apart {d : Dbs} {l : List Int} (h : partialR d l = true) : ∀ i k (hi : i < l.length) (hk : k < l.length), keyR d l[i].toNat l[k].toNat = true → l[i] = l[k] := by
  unfold partialR at h
  simp only [Bool.and_eq_true] at h
  obtain ⟨hs, hc⟩ := h
  have hs0 := hs
  unfold selOk at hs
  simp only [Bool.and_eq_true] at hs
  have hin := setIx_in hs.2
  unfold selD at hc
  rw [if_pos hs0] at hc
  unfold consistent at hc
  simp only [Bool.and_eq_true, decide_eq_true_eq] at hc
  obtain ⟨hv, hcl⟩ := hc
  have hlen := selF_len d l hin
  have hD : ∀ a b, a < l.length → b < l.length → keyR ⟨d.rels, selF d l⟩ a b = true → a = b := by
    have hC := conv_db hv
    unfold blocksL at hcl
    rw [if_pos hv, List.length_map] at hcl
    have hcs := consist_eq hC (selF d l).length (Nat.le_refl _)
    rw [decide_eq_true hcl] at hcs
    have h0 := of_decide_eq_true hcs
    have hce := conf_eq hC (selF d l).length (Nat.le_refl _)
    rw [List.eq_nil_of_length_eq_zero h0] at hce
    intro a b ha hb hab
    have ha' : a < (selF d l).length := by omega
    have hb' : b < (selF d l).length := by omega
    have hsm : ¬ 1 < (blk (keyR ⟨d.rels, selF d l⟩) (selF d l).length a).length := by
      have hf := List.filter_eq_nil_iff.1 hce.symm a (List.mem_range.2 ha')
      simpa using hf
    have haa : a ∈ blk (keyR ⟨d.rels, selF d l⟩) (selF d l).length a := List.mem_filter.2 ⟨List.mem_range.2 ha', hC.refl a ha'⟩
    have hba : b ∈ blk (keyR ⟨d.rels, selF d l⟩) (selF d l).length a := List.mem_filter.2 ⟨List.mem_range.2 hb', hab⟩
    generalize blk (keyR ⟨d.rels, selF d l⟩) (selF d l).length a = B at *
    match B, hsm, haa, hba with
    | [z], _, h1, h2 => simp at h1 h2; omega
    | z :: z2 :: t, hn, _, _ => exact absurd (by simp) hn
  intro i k hi hk hR
  have g : ∀ j (hj : j < l.length), (selF d l)[j]? = d.facts[l[j].toNat]? := by
    intro j hj
    rw [selF_get d l hin j, List.getElem?_eq_getElem hj]; rfl
  have : i = k := by
    apply hD i k hi hk
    unfold keyR at hR ⊢
    rw [g i hi, g k hk]
    exact hR
  subst this
  rfl
theorem ints_toNat {l : List Int} (h : ∀ x, x ∈ l → 0 ≤ x) : ints (l.map Int.toNat) = l := by
  unfold ints
  rw [List.map_map]
  conv => rhs; rw [← List.map_id l]
  apply List.map_congr_left
  intro x hx
  have := h x hx
  simp; omega
/-- A repair takes one fact of each block, in the order of the blocks. -/
theorem repair_picks {d : Dbs} {l : List Int} (h : isRepair d l = true) : picks (blksI (keyR d) d.facts.length) (l.map Int.toNat) := by
  unfold isRepair at h
  simp only [Bool.and_eq_true, decide_eq_true_eq] at h
  obtain ⟨hp, hl⟩ := h
  have hap := sel_apart hp
  have hs := hp
  unfold partialR selOk at hs
  simp only [Bool.and_eq_true] at hs
  obtain ⟨⟨hv, hset⟩, _⟩ := hs
  have hin := setIx_in hset
  have hpw := setIx_pw hset
  unfold blocksL at hl
  rw [if_pos hv, List.length_map] at hl
  have hC := conv_db hv
  refine (picks_of _ _ (by rw [blksI_flatten]; exact range_pw _) ?_ ?_ ?_).2 (by rw [List.length_map]; exact hl)
  · rw [List.pairwise_map]
    refine List.Pairwise.imp_of_mem ?_ hpw
    intro a b ha hb hab
    have := hin a ha
    have := hin b hb
    omega
  · intro x hx
    obtain ⟨y, hy, rfl⟩ := List.mem_map.1 hx
    have := hin y hy
    rw [blksI_flatten]
    exact List.mem_range.2 (by omega)
  · intro b hb x y hx hy hxb hyb
    obtain ⟨x', hx', rfl⟩ := List.mem_map.1 hx
    obtain ⟨y', hy', rfl⟩ := List.mem_map.1 hy
    obtain ⟨i, hi, rfl⟩ := List.getElem_of_mem hx'
    obtain ⟨k, hk, rfl⟩ := List.getElem_of_mem hy'
    have hbs : b ∈ blksS (keyR d) d.facts.length := by rw [← blks_eq hC _ (Nat.le_refl _)]; exact hb
    obtain ⟨h1, h2⟩ := blk_of_mem hC (Nat.le_refl _) hbs hxb
    rw [← h2] at hyb
    have hR := (List.mem_filter.1 hyb).2
    rw [hap i k hi hk hR]
end Go.Proofs.Ytbdichnloeijfaa

