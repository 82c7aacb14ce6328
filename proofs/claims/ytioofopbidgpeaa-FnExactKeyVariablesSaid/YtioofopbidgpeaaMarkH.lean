/- The laws' marks in databases; read again in slices of slices of numbers. -/
import Derived.Test.YtioofopbidgpeaaMarkG
namespace Go.Proofs.Ytioofopbidgpeaa
open Go.RowKit
set_option linter.unusedVariables false
set_option maxRecDepth 100000

theorem at_IntSS {B : Nat} {w : World} {l : List (List Int)} {a0 : Option Addr} {len cap0 : Nat} (h : (cSlice (cSlice cInt)).ok B w l [.slice a0 len cap0]) (j : Nat) (hj : j < l.length) :
    ∃ b off a cap, a0 = some ⟨b, off, none⟩ ∧ b < B ∧ w.cell? ⟨b, off + j, none⟩ = some (.slice a l[j].length cap) ∧ (cSlice cInt).ok B w l[j] [.slice a l[j].length cap] := by
  obtain ⟨b, off, es, rfl, hb, he, hc⟩ := slice_at h j hj
  obtain ⟨a, cap, rfl, hx⟩ := slice_open he
  refine ⟨b, off, a, cap, rfl, hb, ?_, hx⟩
  have := hc 0 (by decide)
  rw [show (cSlice cInt).n = 1 from rfl, Nat.mul_one, Nat.add_zero] at this
  exact this
theorem cDbs_ownI {F : List Nat} {w : World} {x : Dbs} {v0 v1 : Value} (h : cDbs.own F w x [v0, v1]) : ∃ F1 F2, F = F1 ++ F2 ∧ (cSlice cRel).own F1 w x.rels [v0] ∧ (cSlice cFct).own F2 w x.facts [v1] ∧ ∀ k, k ∈ F1 → k ∉ F2 := by
  obtain ⟨u, v, F1, F2, e, h1, h2, rfl, hd⟩ := h
  have h1' := h1
  have h2' := h2
  obtain ⟨_, _, rfl, _⟩ := h1'
  obtain ⟨_, _, rfl, _⟩ := h2'
  simp at e
  obtain ⟨rfl, rfl⟩ := e
  exact ⟨F1, F2, rfl, h1, h2, hd⟩
/-- Marks in a database. -/
def markD (k : Nat) (x : Dbs) : Dbs := ⟨markRs k x.rels, markFs (k + x.rels.length * 3) x.facts⟩
def lvD (x : Dbs) : Nat := x.rels.length * 3 + lvs lvF x.facts
theorem lvs_lvF (l : List Fct) : lvs lvF l = sumFact l + l.length := by
  induction l with
  | nil => rfl
  | cons x l ih =>
    unfold lvs sumFact at *
    rw [List.map_cons, List.sum_cons, ih, List.map_cons, List.sum_cons, List.length_cons]
    show x.vals.length + 1 + _ = _
    omega
theorem lvD_le (x : Dbs) : lvD x ≤ 3 * sizeDatabase x := by
  unfold lvD sizeDatabase sizeRelationS sizeFactS
  rw [lvs_lvF]
  omega
end Go.Proofs.Ytioofopbidgpeaa
