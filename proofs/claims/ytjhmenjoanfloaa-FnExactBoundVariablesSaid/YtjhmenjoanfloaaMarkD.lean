/- The laws' marks, read again in relations; marks in facts and in slices of slices of numbers. -/
import Derived.Test.YtjhmenjoanfloaaMarkC
import Derived.Test.YtjhmenjoanfloaaTyD
namespace Go.Proofs.Ytjhmenjoanfloaa
open Go.RowKit
set_option linter.unusedVariables false
set_option maxRecDepth 100000

theorem markRs_get (k : Nat) (l : List Rel) (j : Nat) (hj : j < (markRs k l).length) : (markRs k l)[j] = ⟨mT (k + j * 3), ((k + j * 3 + 1 : Nat) : Int), ((k + j * 3 + 2 : Nat) : Int)⟩ := by
  induction l generalizing k j with
  | nil => simp [markRs, markL] at hj
  | cons x l ih =>
    cases j with
    | zero => simp [markRs, markL, markR]
    | succ j =>
      have := ih (k + 3) j (by simpa [markRs, markL] using hj)
      simp only [markRs, markL, List.getElem_cons_succ] at this ⊢
      rw [this, show k + 3 + j * 3 = k + (j + 1) * 3 by omega]
end Go.Proofs.Ytjhmenjoanfloaa
