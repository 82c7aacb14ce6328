/- The selected facts are small. -/
import Derived.Test.YtknnnebjjjldpabAbSel
import Derived.Test.YtknnnebjjjldpabMarkTwo
open Go Go.Proofs Go.RowKit
namespace Go.Proofs.Ytknnnebjjjldpab.Ab
set_option linter.unusedSimpArgs false
set_option linter.unusedVariables false
theorem lvs_bnd (c : Nat) : ∀ l : List Fct, (∀ x, x ∈ l → x.vals.length ≤ c) → lvs lvF l ≤ (c + 1) * l.length
  | [], _ => Nat.le_refl _
  | x :: l, h => by
    have h1 := lvs_bnd c l (fun y hy => h y (List.mem_cons_of_mem _ hy))
    have h2 := h x (List.mem_cons_self)
    unfold lvs at *
    rw [List.map_cons, List.sum_cons, List.length_cons, Nat.mul_succ]
    unfold lvF at *
    omega
theorem lvD_sel (d : Dbs) (l : List Int) : lvD (selD d l) ≤ 100 := by
  unfold selD
  split
  · rename_i h
    unfold selOk at h
    rw [Bool.and_eq_true] at h
    have h1 := vld_rels h.1
    have h2 := selF_len d l (setIx_in h.2)
    have h3 := setIx_len h.2
    have h4 := vld_facts h.1
    have h5 := lvs_bnd 3 (selF d l) (fun x hx => by
      unfold selF at hx
      obtain ⟨i, _, hi⟩ := List.mem_filterMap.1 hx
      obtain ⟨hk, rfl⟩ := List.getElem?_eq_some_iff.1 hi
      exact vld_vals h.1 _ hk)
    unfold lvD
    simp only
    omega
  · exact Nat.zero_le _
end Go.Proofs.Ytknnnebjjjldpab.Ab

