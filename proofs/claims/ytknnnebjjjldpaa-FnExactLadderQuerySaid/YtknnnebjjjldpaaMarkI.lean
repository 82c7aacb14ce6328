/- The laws' marks in atoms. -/
import Derived.Test.YtknnnebjjjldpaaMarkOne
import Derived.Test.YtknnnebjjjldpaaTyTre
namespace Go.Proofs.Ytknnnebjjjldpaa
open Go.RowKit
set_option linter.unusedVariables false
set_option maxRecDepth 100000

theorem cAtm_ownI {F : List Nat} {w : World} {x : Atm} {v0 v1 : Value} (h : cAtm.own F w x [v0, v1]) : v0 = .int .i64 x.rel ∧ inR x.rel ∧ (cSlice cInt).own F w x.terms [v1] := by
  obtain ⟨_, _, F1, F2, e, ⟨⟨rfl, hr⟩, rfl⟩, h2, rfl, _⟩ := h
  simp at e
  obtain ⟨rfl, rfl⟩ := e
  exact ⟨rfl, hr, by simpa using h2⟩
theorem cAtm_ownMk {F : List Nat} {w : World} {x : Atm} {v1 : Value} (hr : inR x.rel) (h : (cSlice cInt).own F w x.terms [v1]) : cAtm.own F w x [.int .i64 x.rel, v1] := ⟨[_], [_], [], F, rfl, ⟨⟨rfl, hr⟩, rfl⟩, h, rfl, by simp⟩
theorem cAtm_ownOpen {F : List Nat} {w : World} {x : Atm} {cs : List Value} (h : cAtm.own F w x cs) : ∃ a cap, cs = [.int .i64 x.rel, .slice a x.terms.length cap] ∧ cAtm.own F w x [.int .i64 x.rel, .slice a x.terms.length cap] := by
  have h0 := h
  obtain ⟨_, _, F1, F2, rfl, ⟨⟨rfl, hr⟩, rfl⟩, h2, rfl, _⟩ := h
  obtain ⟨a, cap, rfl, _⟩ := h2
  exact ⟨a, cap, rfl, h0⟩
end Go.Proofs.Ytknnnebjjjldpaa
