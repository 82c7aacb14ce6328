/- The laws' marks in facts. -/
import Derived.Test.YtjhmenjoanfloaaMarkD
namespace Go.Proofs.Ytjhmenjoanfloaa
open Go.RowKit
set_option linter.unusedVariables false
set_option maxRecDepth 100000

theorem cFct_ownI {F : List Nat} {w : World} {x : Fct} {v0 v1 : Value} (h : cFct.own F w x [v0, v1]) : v0 = .int .i64 x.rel ∧ inR x.rel ∧ (cSlice cInt).own F w x.vals [v1] := by
  obtain ⟨_, _, F1, F2, e, ⟨⟨rfl, hr⟩, rfl⟩, h2, rfl, _⟩ := h
  simp at e
  obtain ⟨rfl, rfl⟩ := e
  exact ⟨rfl, hr, by simpa using h2⟩
theorem cFct_ownMk {F : List Nat} {w : World} {x : Fct} {v1 : Value} (hr : inR x.rel) (h : (cSlice cInt).own F w x.vals [v1]) : cFct.own F w x [.int .i64 x.rel, v1] := ⟨[_], [_], [], F, rfl, ⟨⟨rfl, hr⟩, rfl⟩, h, rfl, by simp⟩
theorem cFct_ownOpen {F : List Nat} {w : World} {x : Fct} {cs : List Value} (h : cFct.own F w x cs) : ∃ a cap, cs = [.int .i64 x.rel, .slice a x.vals.length cap] ∧ cFct.own F w x [.int .i64 x.rel, .slice a x.vals.length cap] := by
  have h0 := h
  obtain ⟨_, _, F1, F2, rfl, ⟨⟨rfl, hr⟩, rfl⟩, h2, rfl, _⟩ := h
  obtain ⟨a, cap, rfl, _⟩ := h2
  exact ⟨a, cap, rfl, h0⟩
end Go.Proofs.Ytjhmenjoanfloaa
