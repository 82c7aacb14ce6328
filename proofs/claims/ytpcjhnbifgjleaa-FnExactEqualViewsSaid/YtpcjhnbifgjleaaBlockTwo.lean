/- BlockTwo: Block5 Block6 Block7 Block8. -/
import Derived.Test.YtpcjhnbifgjleaaBlockOne
import Derived.Test.YtpcjhnbifgjleaaShelf
/- Chapter 5: ConflictingFacts, the model's and the program's. -/
namespace Go.Proofs.Ytpcjhnbifgjleaa
open Go.RowKit
set_option linter.unusedVariables false
set_option maxRecDepth 100000

/-- What stands of the facts in conflict behind k rounds. -/
def confPart (d : Dbs) (k : Nat) : List Int := ints ((List.range k).filter fun i => decide (1 < (blk (keyR d) d.facts.length i).length))
theorem confPart_succ (d : Dbs) (k : Nat) : confPart d (k + 1) = if decide (1 < (blk (keyR d) d.facts.length k).length) then confPart d k ++ [(k : Int)] else confPart d k := by
  unfold confPart
  rw [List.range_succ, List.filter_append]
  cases h : decide (1 < (blk (keyR d) d.facts.length k).length)
  · simp at h; simp [h]
  · simp at h; simp [h, ints]
theorem confPart_len (d : Dbs) (k : Nat) : (confPart d k).length ≤ k := by
  unfold confPart ints
  rw [List.length_map]
  exact Nat.le_trans (List.length_filter_le _ _) (by simp)
theorem confPart_inR (d : Dbs) (k : Nat) (hk : k ≤ 14) : ∀ x, x ∈ confPart d k → inR x :=
  ints_inR fun x hx => by
    have := List.mem_range.1 (List.mem_filter.1 hx).1
    omega
/-- The facts in conflict. -/
def confL (d : Dbs) : List Int := if validDb d then confPart d d.facts.length else []

end Go.Proofs.Ytpcjhnbifgjleaa
namespace Go.Proofs.Ytpcjhnbifgjleaa
open Go.RowKit
set_option linter.unusedVariables false
set_option maxRecDepth 100000
/-- The program's facts in conflict behind j blocks. -/
def cfPart (L : List (List Int)) (j : Nat) : List Int := ((L.take j).filter fun b => decide (1 < b.length)).flatten
theorem cfPart_succ (L : List (List Int)) (j : Nat) (hj : j < L.length) : cfPart L (j + 1) = if decide (1 < L[j].length) then cfPart L j ++ L[j] else cfPart L j := by
  unfold cfPart
  rw [List.take_succ_eq_append_getElem hj, List.filter_append, List.flatten_append]
  cases h : decide (1 < L[j].length)
  · simp at h; simp [h]
  · simp at h; simp [h]
theorem cf_le : ∀ (L : List (List Int)), (L.filter fun b => decide (1 < b.length)).flatten.length ≤ L.flatten.length
  | [] => by simp
  | b :: L => by
    have := cf_le L
    rw [List.filter_cons]
    split
    · simp only [List.flatten_cons, List.length_append]; omega
    · simp only [List.flatten_cons, List.length_append]; omega
theorem cfPart_len (L : List (List Int)) (j : Nat) : (cfPart L j).length ≤ L.flatten.length := by
  unfold cfPart
  refine Nat.le_trans (cf_le _) ?_
  have h := congrArg (fun l => (List.flatten l).length) (List.take_append_drop j L)
  simp only [List.flatten_append, List.length_append] at h
  omega
theorem cfPart_mem (L : List (List Int)) (j : Nat) (x : Int) (h : x ∈ cfPart L j) : ∃ b, b ∈ L ∧ x ∈ b := by
  unfold cfPart at h
  obtain ⟨b, hb, hx⟩ := List.mem_flatten.1 h
  exact ⟨b, List.mem_of_mem_take (List.mem_filter.1 hb).1, hx⟩
theorem flatten_ints : ∀ bs : List (List Nat), (bs.map ints).flatten = ints bs.flatten
  | [] => rfl
  | b :: bs => by rw [List.map_cons, List.flatten_cons, flatten_ints bs, List.flatten_cons]; simp [ints]
theorem filter_ints : ∀ bs : List (List Nat), (bs.map ints).filter (fun b => decide (1 < b.length)) = (bs.filter fun b => decide (1 < b.length)).map ints
  | [] => rfl
  | b :: bs => by
    have ih := filter_ints bs
    have hl : (ints b).length = b.length := by unfold ints; simp
    rw [List.map_cons, List.filter_cons, List.filter_cons, ih, hl]
    split <;> simp
theorem blocksL_flat {d : Dbs} (h : validDb d = true) : (blocksL d).flatten = ints (List.range d.facts.length) := by
  unfold blocksL
  rw [if_pos h, flatten_ints, blksI_flatten]
theorem cfPart_all {d : Dbs} (h : validDb d = true) : cfPart (blocksL d) (blocksL d).length = confL d := by
  unfold cfPart confL confPart
  rw [if_pos h, List.take_length]
  unfold blocksL
  rw [if_pos h, filter_ints, flatten_ints, conf_eq (conv_db h) _ (Nat.le_refl _)]
theorem blocksL_false {d : Dbs} (h : validDb d = false) : blocksL d = [] := by unfold blocksL; rw [if_neg (by rw [h]; simp)]
theorem confL_all (d : Dbs) : cfPart (blocksL d) (blocksL d).length = confL d := by
  cases h : validDb d
  · rw [blocksL_false h]
    unfold confL
    rw [if_neg (by rw [h]; simp)]; rfl
  · exact cfPart_all h
theorem blocksL_small (d : Dbs) : (blocksL d).flatten.length ≤ 14 ∧ ∀ b, b ∈ blocksL d → ∀ x, x ∈ b → inR x := by
  cases h : validDb d
  · rw [blocksL_false h]; simp
  · have h14 := dbValid_len h
    refine ⟨by rw [blocksL_flat h]; unfold ints; simpa using h14, fun b hb x hx => ?_⟩
    have hm : x ∈ (blocksL d).flatten := List.mem_flatten.2 ⟨b, hb, hx⟩
    rw [blocksL_flat h] at hm
    exact ints_inR (fun y hy => by have := List.mem_range.1 hy; omega) x hm
theorem blocksL_len (d : Dbs) : (blocksL d).length ≤ 14 := by
  cases h : validDb d
  · rw [blocksL_false h]; simp
  · have h14 := dbValid_len h
    rw [← bI_all h]
    exact Nat.le_trans (bI_len d _) h14

/-- A valid database without conflicts. -/
def consistent (d : Dbs) : Bool := validDb d && decide ((blocksL d).length = d.facts.length)
theorem consistent_eq (d : Dbs) : consistent d = (validDb d && decide ((confL d).length = 0)) := by
  unfold consistent
  cases h : validDb d
  · rfl
  · rw [Bool.true_and, Bool.true_and]
    have h1 := consist_eq (conv_db h) d.facts.length (Nat.le_refl _)
    have h2 : (confL d).length = ((blksI (keyR d) d.facts.length).filter fun b => decide (1 < b.length)).flatten.length := by
      unfold confL confPart
      rw [if_pos h, conf_eq (conv_db h) _ (Nat.le_refl _)]
      unfold ints
      simp
    have h3 : (blocksL d).length = (blksI (keyR d) d.facts.length).length := by
      unfold blocksL
      rw [if_pos h]; simp
    rw [h2, h3, ← h1]
theorem confL_len (d : Dbs) : (confL d).length ≤ 14 := by
  rw [← confL_all]
  exact Nat.le_trans (cfPart_len _ _) (blocksL_small d).1

end Go.Proofs.Ytpcjhnbifgjleaa
namespace Go.Proofs.Ytpcjhnbifgjleaa
open Go.RowKit
set_option linter.unusedVariables false
set_option maxRecDepth 100000
/-- An element of a slice of slices of the call's own. -/
theorem own_elem {B : Nat} {w : World} {L : List (List Int)} {a : Option Addr} {len cap : Nat} (h : Own (cSlice (cSlice cInt)) B w L [.slice a len cap]) (j : Nat) (hj : j < L.length) :
    ∃ b off ha hc, a = some ⟨b, off, none⟩ ∧ w.cell? ⟨b, off + j, none⟩ = some (.slice ha L[j].length hc) ∧ Own (cSlice cInt) B w L[j] [.slice ha L[j].length hc] := by
  obtain ⟨F, ⟨a', cap', e, _, hF⟩, hFr⟩ := h
  simp at e
  obtain ⟨rfl, rfl, rfl⟩ := e
  rcases hF with ⟨rfl, _⟩ | ⟨g, off, G, rfl, hg, hgs, hG, _, _, he⟩
  · simp at hj
  · obtain ⟨es, h1, h2⟩ := he j hj
    obtain ⟨ha, hc, rfl, h3⟩ := slice_openO h1
    refine ⟨g, off, ha, hc, rfl, ?_, G j, h3, fun k hk => hFr k (hG j hj k hk).1⟩
    have := h2 0 (by decide)
    rw [show (cSlice cInt).n = 1 from rfl, Nat.mul_one, Nat.add_zero] at this
    exact this
theorem ints_contains (b : List Nat) (p : Nat) : (ints b).contains (p : Int) = b.contains p := by
  rw [List.contains_eq_mem, List.contains_eq_mem]
  refine decide_eq_decide.2 ⟨fun hm => ?_, fun hm => List.mem_map.2 ⟨p, hm, rfl⟩⟩
  obtain ⟨a, ha, e⟩ := List.mem_map.1 hm
  have : a = p := by omega
  exact this ▸ ha
theorem find_ints (p : Nat) : ∀ bs : List (List Nat), (bs.map ints).find? (fun b => b.contains (p : Int)) = (bs.find? fun b => b.contains p).map ints
  | [] => rfl
  | b :: bs => by
    rw [List.map_cons, List.find?_cons, List.find?_cons, ints_contains, find_ints p bs]
    cases b.contains p <;> rfl
theorem blockL_find (d : Dbs) (i : Int) : blockL d i = ((blocksL d).find? fun b => b.contains i).getD [] := by
  unfold blockL
  cases hv : validDb d
  · rw [blocksL_false hv]; rfl
  · rw [Bool.true_and]
    by_cases hi : 0 ≤ i
    · obtain ⟨p, rfl⟩ := Int.eq_ofNat_of_zero_le hi
      have hL : blocksL d = (blksI (keyR d) d.facts.length).map ints := by unfold blocksL; rw [if_pos hv]
      rw [hL, find_ints]
      by_cases hp : p < d.facts.length
      · rw [find_blk (conv_db hv) (Nat.le_refl _) hp, if_pos (by unfold inB; simp; omega)]; rfl
      · rw [find_blk_none hp, if_neg (by unfold inB; simp; omega)]; rfl
    · rw [if_neg (by unfold inB; simp; omega)]
      have : (blocksL d).find? (fun b => b.contains i) = none := by
        rw [List.find?_eq_none]
        intro b hb hc
        have hmem : i ∈ (blocksL d).flatten := List.mem_flatten.2 ⟨b, hb, by simpa using hc⟩
        rw [blocksL_flat hv] at hmem
        obtain ⟨n, _, hn⟩ := List.mem_map.1 hmem
        omega
      rw [this]; rfl

/-- The blocks' sizes. -/
def sizesL (d : Dbs) : List Int := (blocksL d).map fun b => (b.length : Int)
def szPart (L : List (List Int)) (k : Nat) : List Int := (L.take k).map fun b => (b.length : Int)
theorem szPart_succ (L : List (List Int)) (k : Nat) (hk : k < L.length) : szPart L (k + 1) = szPart L k ++ [(L[k].length : Int)] := by
  unfold szPart
  rw [List.take_succ_eq_append_getElem hk, List.map_append]; rfl
theorem szPart_len (L : List (List Int)) (k : Nat) : (szPart L k).length ≤ k := by
  unfold szPart
  simp
  omega
theorem szPart_inR (L : List (List Int)) (k : Nat) (h : ∀ b, b ∈ L → b.length ≤ 14) : ∀ x, x ∈ szPart L k → inR x := by
  intro x hx
  obtain ⟨b, hb, rfl⟩ := List.mem_map.1 hx
  have := h b (List.mem_of_mem_take hb)
  unfold inR
  omega
theorem blocksL_each (d : Dbs) : ∀ b, b ∈ blocksL d → b.length ≤ 14 := by
  intro b hb
  refine Nat.le_trans ?_ (blocksL_small d).1
  rw [List.length_flatten]
  exact le_sum (List.mem_map.2 ⟨b, hb, rfl⟩)
theorem sizesL_all (d : Dbs) : szPart (blocksL d) (blocksL d).length = sizesL d := by unfold szPart sizesL; rw [List.take_length]

end Go.Proofs.Ytpcjhnbifgjleaa
namespace Go.Proofs.Ytpcjhnbifgjleaa
open Go.RowKit
set_option linter.unusedVariables false
set_option maxRecDepth 100000
theorem sizesL_len (d : Dbs) : (sizesL d).length ≤ 14 := by unfold sizesL; rw [List.length_map]; exact blocksL_len d
theorem sizesL_bnd (d : Dbs) : (sizesL d).length ≤ 4611686018427000000 := Nat.le_trans (sizesL_len d) (by decide)
theorem blockL_len (d : Dbs) (i : Int) : (blockL d i).length ≤ 14 := by
  unfold blockL
  split
  · rename_i h
    simp only [Bool.and_eq_true] at h
    have h14 := dbValid_len h.1
    unfold ints blk
    rw [List.length_map]
    exact Nat.le_trans (List.length_filter_le _ _) (by simpa using h14)
  · simp
theorem blockL_bnd (d : Dbs) (i : Int) : (blockL d i).length ≤ 4611686018427000000 := Nat.le_trans (blockL_len d i) (by decide)
/-- The product of the first k numbers. -/
def prodP (l : List Int) (k : Nat) : Int := (l.take k).foldl (· * ·) 1
theorem prodP_succ (l : List Int) (k : Nat) (hk : k < l.length) : prodP l (k + 1) = prodP l k * l[k] := by
  unfold prodP
  rw [List.take_succ_eq_append_getElem hk, List.foldl_append]; rfl
theorem prodP_le (l : List Int) (h : ∀ x, x ∈ l → 0 ≤ x ∧ x ≤ 14) : ∀ k, k ≤ l.length → 0 ≤ prodP l k ∧ prodP l k ≤ ((14 ^ k : Nat) : Int)
  | 0, _ => by simp [prodP]
  | k + 1, hk => by
    have ih := prodP_le l h k (by omega)
    have hx := h l[k] (List.getElem_mem (by omega))
    rw [prodP_succ l k (by omega)]
    refine ⟨Int.mul_nonneg ih.1 hx.1, ?_⟩
    have h1 : prodP l k * l[k] ≤ prodP l k * 14 := Int.mul_le_mul_of_nonneg_left hx.2 ih.1
    have h2 : prodP l k * 14 ≤ ((14 ^ k : Nat) : Int) * 14 := Int.mul_le_mul_of_nonneg_right ih.2 (by decide)
    have h3 : ((14 ^ (k + 1) : Nat) : Int) = ((14 ^ k : Nat) : Int) * 14 := by rw [Nat.pow_succ, Int.natCast_mul]; rfl
    omega
theorem prodP_small (l : List Int) (h : ∀ x, x ∈ l → 0 ≤ x ∧ x ≤ 14) (k : Nat) (hk : k ≤ l.length) (hl : l.length ≤ 14) : 0 ≤ prodP l k ∧ prodP l k ≤ 11112006825558016 := by
  have h1 := prodP_le l h k hk
  have h2 : 14 ^ k ≤ 14 ^ 14 := Nat.pow_le_pow_right (by decide) (by omega)
  have h3 : (14 : Nat) ^ 14 = 11112006825558016 := by decide
  omega
theorem sizesL_in (d : Dbs) : ∀ x, x ∈ sizesL d → 0 ≤ x ∧ x ≤ 14 := by
  intro x hx
  obtain ⟨b, hb, rfl⟩ := List.mem_map.1 hx
  have := blocksL_each d b hb
  omega
/-- The number of repairs. -/
def countL (d : Dbs) : Int := if validDb d then prodP (sizesL d) (sizesL d).length else 0

end Go.Proofs.Ytpcjhnbifgjleaa
