/- Chapter 9: ViolatesConstraint, the model's and the program's. -/
import Derived.Test.YtlcogbmceanghaaDoorCon
namespace Go.Proofs.YtlcogbmceanghaaDoor
open Go.RowKit
set_option linter.unusedVariables false
set_option maxRecDepth 100000

/-- A column's value of a fact. -/
def valAt (x : Fct) (c : Int) : Int := x.vals.getD c.toNat 0
/-- Two facts that a constraint forbids. -/
def forb (c : Dcn) (x y : Fct) : Bool := decide (x.rel = c.r1) && (decide (y.rel = c.r2) && (decide (valAt x c.j1 = valAt y c.j2) && (if c.cmp = 2 then decide (valAt x c.c1 < valAt y c.c2) else decide (valAt x c.c1 = valAt y c.c2))))
/-- The constraint's columns are columns of the fact. -/
def hasCols (x : Fct) (j c : Int) : Prop := 0 ≤ j ∧ j < (x.vals.length : Int) ∧ 0 ≤ c ∧ c < (x.vals.length : Int)
def forbAt (d : Dbs) (c : Dcn) (i k : Int) : Bool := match d.facts[i.toNat]?, d.facts[k.toNat]? with | some x, some y => forb c x y | _, _ => false
def violates (d : Dbs) (c : Dcn) (i k : Int) : Bool := validCon d c && (inB i 0 ((d.facts.length : Int) - 1) && (inB k 0 ((d.facts.length : Int) - 1) && (!decide (i = k) && forbAt d c i k)))
theorem validDb_fact {d : Dbs} (h : validDb d = true) (k : Nat) (hk : k < d.facts.length) : validFact d.rels d.facts[k] = true := by
  rw [validDb_eq] at h
  simp only [Bool.and_eq_true] at h
  exact List.all_eq_true.1 h.2.1 _ (List.getElem_mem hk)
theorem con_cols {d : Dbs} {c : Dcn} (h : validCon d c = true) (k : Nat) (hk : k < d.facts.length) : (d.facts[k].rel = c.r1 → hasCols d.facts[k] c.j1 c.c1) ∧ (d.facts[k].rel = c.r2 → hasCols d.facts[k] c.j2 c.c2) := by
  unfold validCon fits colOk inB at h
  simp only [Bool.and_eq_true, decide_eq_true_eq] at h
  obtain ⟨h0, ⟨_, h1⟩, ⟨_, h2⟩, ⟨_, h3⟩, ⟨_, h4⟩, _⟩ := h
  have hf := validDb_fact h0 k hk
  unfold validFact inB at hf
  simp only [Bool.and_eq_true, decide_eq_true_eq] at hf
  obtain ⟨_, _, h5, _⟩ := hf
  refine ⟨fun e => ?_, fun e => ?_⟩
  · rw [e] at h5
    exact ⟨h1.1, by omega, h2.1, by omega⟩
  · rw [e] at h5
    exact ⟨h3.1, by omega, h4.1, by omega⟩
theorem con_cmp {d : Dbs} {c : Dcn} (h : validCon d c = true) : c.cmp = 1 ∨ c.cmp = 2 := by
  unfold validCon fits inB at h
  simp only [Bool.and_eq_true, decide_eq_true_eq] at h
  have := h.2.2.2.2.2
  omega
theorem valAt_nat {x : Fct} {j : Nat} (h : j < x.vals.length) : valAt x (j : Int) = x.vals[j] := by unfold valAt; simp [h]

end Go.Proofs.YtlcogbmceanghaaDoor
