/- Go's slices.Equal on numbers; the first numbers of a slice. -/
import Derived.Test.YtbdichnloeijfaaFactImpl2
namespace Go.Proofs.Ytbdichnloeijfaa
open Go.RowKit
set_option linter.unusedVariables false
set_option maxRecDepth 100000

/-- The first k numbers of a slice. -/
theorem ints_take {B : Nat} {w : World} {l : List Int} {a : Option Addr} {len cap : Nat} (h : (cSlice cInt).ok B w l [.slice a len cap]) (k : Nat) (hk : k ≤ l.length) :
    (cSlice cInt).ok B w (l.take k) [.slice a (l.take k).length cap] := by
  obtain ⟨a', cap', e, hm, h⟩ := h
  simp at e
  obtain ⟨rfl, rfl, rfl⟩ := e
  have hl : (l.take k).length = k := by simp; omega
  refine ⟨a, cap, rfl, ⟨by omega, by omega⟩, fun j hj => ?_⟩
  obtain ⟨b, off, es, he, hb, hc, hi⟩ := h j (by omega)
  exact ⟨b, off, es, he, hb, by simpa using hc, hi⟩

end Go.Proofs.Ytbdichnloeijfaa
