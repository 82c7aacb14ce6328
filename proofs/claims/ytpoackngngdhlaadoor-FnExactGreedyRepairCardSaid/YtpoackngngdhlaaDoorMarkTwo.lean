/- MarkTwo: MarkE MarkF MarkG MarkH. -/
import Derived.Test.YtpoackngngdhlaaDoorMarkOne
import Derived.Deep.Cut
/- The laws' marks in facts. -/
namespace Go.Proofs.YtpoackngngdhlaaDoor
open Go.RowKit
set_option linter.unusedVariables false
set_option maxRecDepth 100000

theorem cFct_ownI {F : List Nat} {w : World} {x : Fct} {v0 v1 : Value} (h : cFct.own F w x [v0, v1]) : v0 = .int .i64 x.rel ∧ inR x.rel ∧ (cSlice cInt).own F w x.vals [v1] := by
  obtain ⟨_, _, F1, F2, e, ⟨⟨rfl, hr⟩, rfl⟩, h2, rfl, _⟩ := h
  simp at e
  obtain ⟨rfl, rfl⟩ := e
  exact ⟨rfl, hr, by simpa using h2⟩
theorem cFct_ownMk {F : List Nat} {w : World} {x : Fct} {v1 : Value} (hr : inR x.rel) (h : (cSlice cInt).own F w x.vals [v1]) : cFct.own F w x [.int .i64 x.rel, v1] := ⟨[_], [_], [], F, rfl, ⟨⟨rfl, hr⟩, rfl⟩, h, rfl, by simp⟩
theorem cFct_ownOpen {F : List Nat} {w : World} {x : Fct} {cs : List Value} (h : cFct.own F w x cs) : ∃ a cap, cs = [.int .i64 x.rel, .slice a x.vals.length cap] ∧ cFct.own F w x [.int .i64 x.rel, .slice a x.vals.length cap] := by
  have h0 := h
  obtain ⟨_, _, F1, F2, rfl, ⟨⟨rfl, hr⟩, rfl⟩, h2, rfl, _⟩ := h
  obtain ⟨a, cap, rfl, _⟩ := h2
  exact ⟨a, cap, rfl, h0⟩
end Go.Proofs.YtpoackngngdhlaaDoor
namespace Go.Proofs.YtpoackngngdhlaaDoor
open Go.RowKit
set_option linter.unusedVariables false
set_option maxRecDepth 100000
/-- Marks in a fact of a list. -/
def markF (k : Nat) (x : Fct) : Fct := ⟨(k : Int), markI (k + 1) x.vals⟩
/-- The leaves of a fact of a list. -/
def lvF (x : Fct) : Nat := x.vals.length + 1
def markFs (k : Nat) (l : List Fct) : List Fct := markL markF lvF k l
end Go.Proofs.YtpoackngngdhlaaDoor
namespace Go.Proofs.YtpoackngngdhlaaDoor
open Go.RowKit
set_option linter.unusedVariables false
set_option maxRecDepth 100000
theorem markL_at {α : Type} (mk : Nat → α → α) (lv : α → Nat) (q : Nat) (l M : List α) (j : Nat) (hj : j < l.length) (hM : j < M.length) (h : M.drop j = markL mk lv q (l.drop j)) : M[j] = mk q l[j] ∧ M.drop (j + 1) = markL mk lv (q + lv l[j]) (l.drop (j + 1)) := by
  rw [List.drop_eq_getElem_cons hM, markL_drop _ _ _ _ _ hj] at h
  simp only [List.cons.injEq] at h
  exact h
/-- Marks in a slice of slices of numbers. -/
def markIs (k : Nat) (l : List (List Int)) : List (List Int) := markL markI List.length k l
end Go.Proofs.YtpoackngngdhlaaDoor
namespace Go.Proofs.YtpoackngngdhlaaDoor
open Go.RowKit
set_option linter.unusedVariables false
set_option maxRecDepth 100000
theorem at_IntSS {B : Nat} {w : World} {l : List (List Int)} {a0 : Option Addr} {len cap0 : Nat} (h : (cSlice (cSlice cInt)).ok B w l [.slice a0 len cap0]) (j : Nat) (hj : j < l.length) :
    ∃ b off a cap, a0 = some ⟨b, off, none⟩ ∧ b < B ∧ w.cell? ⟨b, off + j, none⟩ = some (.slice a l[j].length cap) ∧ (cSlice cInt).ok B w l[j] [.slice a l[j].length cap] := by
  obtain ⟨b, off, es, rfl, hb, he, hc⟩ := slice_at h j hj
  obtain ⟨a, cap, rfl, hx⟩ := slice_open he
  refine ⟨b, off, a, cap, rfl, hb, ?_, hx⟩
  have := hc 0 (by decide)
  rw [show (cSlice cInt).n = 1 from rfl, Nat.mul_one, Nat.add_zero] at this
  exact this
theorem cDbs_ownI {F : List Nat} {w : World} {x : Dbs} {v0 v1 : Value} (h : cDbs.own F w x [v0, v1]) : ∃ F1 F2, F = F1 ++ F2 ∧ (cSlice cRel).own F1 w x.rels [v0] ∧ (cSlice cFct).own F2 w x.facts [v1] ∧ ∀ k, k ∈ F1 → k ∉ F2 := by
  obtain ⟨u, v, F1, F2, e, h1, h2, rfl, hd⟩ := h
  have h1' := h1
  have h2' := h2
  obtain ⟨_, _, rfl, _⟩ := h1'
  obtain ⟨_, _, rfl, _⟩ := h2'
  simp at e
  obtain ⟨rfl, rfl⟩ := e
  exact ⟨F1, F2, rfl, h1, h2, hd⟩
/-- Marks in a database. -/
def markD (k : Nat) (x : Dbs) : Dbs := ⟨markRs k x.rels, markFs (k + x.rels.length * 3) x.facts⟩
def lvD (x : Dbs) : Nat := x.rels.length * 3 + lvs lvF x.facts
theorem lvs_lvF (l : List Fct) : lvs lvF l = sumFact l + l.length := by
  induction l with
  | nil => rfl
  | cons x l ih =>
    unfold lvs sumFact at *
    rw [List.map_cons, List.sum_cons, ih, List.map_cons, List.sum_cons, List.length_cons]
    show x.vals.length + 1 + _ = _
    omega
theorem lvD_le (x : Dbs) : lvD x ≤ 3 * sizeDatabase x := by
  unfold lvD sizeDatabase sizeRelationS sizeFactS
  rw [lvs_lvF]
  omega
end Go.Proofs.YtpoackngngdhlaaDoor
