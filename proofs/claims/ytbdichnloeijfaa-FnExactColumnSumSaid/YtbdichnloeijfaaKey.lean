/- Chapter 3: keys: KeyOf and HaveSameKey, the program's side. -/
import Derived.Test.YtbdichnloeijfaaEq
import Derived.Test.YtbdichnloeijfaaApp
import Derived.StillTailTactics
namespace Go.Proofs.Ytbdichnloeijfaa
open Go.RowKit
set_option linter.unusedVariables false
set_option maxRecDepth 100000

/-- The key's length of a relation, by its place. -/
def keyN (l : List Rel) (r : Int) : Nat := match l[r.toNat]? with | some q => q.key.toNat | none => 0
theorem validRels_all {l : List Rel} (h : validRels l = true) (k : Nat) (hk : k < l.length) : validRel l[k] = true := by
  unfold validRels at h
  rw [ascFrom_split] at h
  simp only [Bool.and_eq_true] at h
  exact List.all_eq_true.1 h.1.1 _ (List.getElem_mem hk)
theorem validRels_len {l : List Rel} (h : validRels l = true) : l.length ≤ 4 := by
  unfold validRels at h
  simp only [Bool.and_eq_true, decide_eq_true_eq] at h
  exact h.2
/-- A valid fact: its relation is there, the key is no longer than the values. -/
theorem validFact_key {l : List Rel} {x : Fct} (h : validFact l x = true) : ∃ (k p : Nat) (hk : k < l.length), x.rel = (k : Int) ∧ l[k].key = (p : Int) ∧ p ≤ x.vals.length ∧ x.vals.length ≤ 3 ∧ keyN l (k : Int) = p ∧ l[k].arity = (x.vals.length : Int) := by
  unfold validFact inB at h
  simp only [Bool.and_eq_true, decide_eq_true_eq] at h
  obtain ⟨h1, ⟨h2, h3⟩, h4, h5⟩ := h
  obtain ⟨k, hk0⟩ := Int.eq_ofNat_of_zero_le h2
  have hk : k < l.length := by omega
  have hv := validRels_all h1 k hk
  unfold validRel inB at hv
  simp only [Bool.and_eq_true, decide_eq_true_eq] at hv
  obtain ⟨_, ⟨h6, h7⟩, h8, h9⟩ := hv
  have har : arityAt l x.rel = l[k].arity := by unfold arityAt; rw [hk0]; simp [hk]
  rw [har] at h4
  obtain ⟨p, hp⟩ := Int.eq_ofNat_of_zero_le h8
  refine ⟨k, p, hk, hk0, hp, by omega, by omega, ?_, h4.symm⟩
  unfold keyN
  simp [hk, hp]
/-- Two facts of one relation, with one key. -/
def sameKey (l : List Rel) (x y : Fct) : Bool := decide (x.rel = y.rel) && decide (x.vals.take (keyN l x.rel) = y.vals.take (keyN l x.rel))
/-- The key's values of a fact. -/
def keyVals (l : List Rel) (x : Fct) : List Int := if validFact l x then x.vals.take (keyN l x.rel) else []

/-- HaveSameKey's answer. -/
def haveKey (l : List Rel) (x y : Fct) : Bool := validFact l x && (validFact l y && sameKey l x y)
end Go.Proofs.Ytbdichnloeijfaa
