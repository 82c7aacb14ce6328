/- Chapter 3: KeyOf, the model's and the program's; the model's HaveSameKey. -/
import Derived.Test.YtpcjhnbifgjleaaKeyOne
import Derived.Deep.RegionHeld3
namespace Go.Proofs.Ytpcjhnbifgjleaa
open Go.RowKit
set_option linter.unusedVariables false
set_option maxRecDepth 100000

theorem Own.empty {α : Type} {c : Cod α} (B : Nat) (w : World) (a : Option Addr) (cap : Nat) : Own (cSlice c) B w [] [.slice a 0 cap] := ⟨[], ⟨a, cap, rfl, by simp, .inl ⟨rfl, rfl⟩⟩, by simp⟩
theorem keyVals_len (l : List Rel) (x : Fct) : (keyVals l x).length ≤ 3 := by
  unfold keyVals
  split
  · rename_i h
    obtain ⟨k, p, hk, _, _, h1, h2, _⟩ := validFact_key h
    have : (x.vals.take (keyN l x.rel)).length ≤ x.vals.length := by simp; omega
    omega
  · simp
theorem row_empty (w : World) (e : TypeId) (base : Nat) (h : base ≤ w.heap.size) : (w.alloc (.cells #[] e)).ownsRow base e 1 (.slice (some ⟨w.heap.size, 0, none⟩) 0 0) 0 [] :=
  ⟨rfl, .inr ⟨w.heap.size, 0, #[], rfl, h, heap_alloc_new w _, by simp, by simp, by simp, by simp⟩⟩

end Go.Proofs.Ytpcjhnbifgjleaa
