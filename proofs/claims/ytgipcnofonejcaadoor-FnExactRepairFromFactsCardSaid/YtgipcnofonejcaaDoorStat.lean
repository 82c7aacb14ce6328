/- Chapters 7, 33: CountRepairs of the program, statistics. -/
import Derived.Test.YtgipcnofonejcaaDoorAbDb
import Derived.Test.YtgipcnofonejcaaDoorProd
open Go Go.Proofs Go.RowKit
namespace Go.Proofs.YtgipcnofonejcaaDoor.Ab
set_option linter.unusedSimpArgs false
set_option linter.unusedVariables false
set_option maxRecDepth 100000
theorem mulW_prod (l : List Int) (h : ∀ x, x ∈ l → 0 ≤ x ∧ x ≤ 14) (hl : l.length ≤ 14) : ∀ k, k ≤ l.length → (l.take k).foldl mulW 1 = prodP l k
  | 0, _ => rfl
  | k + 1, hk => by
    have hp := prodP_small l h (k + 1) hk hl
    rw [List.take_succ_eq_append_getElem (by omega), List.foldl_append, mulW_prod l h hl k (by omega)]
    rw [prodP_succ l k (by omega)] at hp ⊢
    show mulW _ _ = _
    unfold mulW
    rw [IntKind.wrap_i64]
    omega
def stN (l : List Int) : Int := ((l.filter fun x => decide (1 < x)).length : Int)
def stM (l : List Int) : Int := (l.map fun x => x - 1).sum
theorem stN_step (l : List Int) (i : Nat) (h : i < l.length) : stN (l.take (i + 1)) = stN (l.take i) + if 1 < l[i] then 1 else 0 := by
  unfold stN
  rw [List.take_succ_eq_append_getElem h, List.filter_append, List.length_append]
  by_cases h1 : 1 < l[i] <;> simp [h1]
theorem stM_step (l : List Int) (i : Nat) (h : i < l.length) : stM (l.take (i + 1)) = stM (l.take i) + (l[i] - 1) := by
  unfold stM
  rw [List.take_succ_eq_append_getElem h, List.map_append, List.sum_append]
  simp
theorem st_bnd (l : List Int) (hx : ∀ x, x ∈ l → 1 ≤ x ∧ x ≤ 14) : ∀ i, i ≤ l.length → 0 ≤ stN (l.take i) ∧ stN (l.take i) ≤ i ∧ 0 ≤ stM (l.take i) ∧ stM (l.take i) ≤ 13 * i
  | 0, _ => by simp [stN, stM]
  | i + 1, h => by
    have ih := st_bnd l hx i (by omega)
    have := hx l[i] (List.getElem_mem (by omega))
    rw [stN_step l i h, stM_step l i h]
    split <;> omega
theorem sizesL_pos (d : Dbs) : ∀ x, x ∈ sizesL d → 1 ≤ x ∧ x ≤ 14 := by
  intro x hx
  have h2 := sizesL_in d x hx
  obtain ⟨b, hb, rfl⟩ := List.mem_map.1 hx
  refine ⟨?_, h2.2⟩
  unfold blocksL at hb
  split at hb
  · rename_i hv
    obtain ⟨c, hc, rfl⟩ := List.mem_map.1 hb
    have := blks_pos (conv_db hv) (Nat.le_refl _) hc
    unfold ints
    rw [List.length_map]
    omega
  · cases hb
def incL (d : Dbs) : Int := if d.facts.length = 0 then 0 else (100 * ((confL d).length : Int)).tdiv d.facts.length
theorem confL_14 (d : Dbs) : (confL d).length ≤ 14 := by
  unfold confL
  split
  · rename_i h
    have h14 := dbValid_len h
    unfold confPart ints
    rw [List.length_map]
    exact Nat.le_trans (List.length_filter_le _ _) (by simpa using h14)
  · simp
theorem incL_wrap (d : Dbs) (h : d.facts.length ≠ 0) : IntKind.i64.wrap ((IntKind.i64.wrap (100 * ((confL d).length : Int))).tdiv (d.facts.length : Int)) = incL d := by
  have h1 := confL_14 d
  unfold incL
  rw [if_neg h]
  have e : IntKind.i64.wrap (100 * ((confL d).length : Int)) = 100 * ((confL d).length : Int) := by rw [IntKind.wrap_i64]; omega
  rw [e, Int.tdiv_eq_ediv_of_nonneg (by omega)]
  have h2 := Int.ediv_le_self (a := 100 * ((confL d).length : Int)) (b := (d.facts.length : Int)) (by omega)
  have h3 : 0 ≤ 100 * ((confL d).length : Int) / (d.facts.length : Int) := Int.ediv_nonneg (by omega) (by omega)
  rw [IntKind.wrap_i64]
  omega
end Go.Proofs.YtgipcnofonejcaaDoor.Ab
