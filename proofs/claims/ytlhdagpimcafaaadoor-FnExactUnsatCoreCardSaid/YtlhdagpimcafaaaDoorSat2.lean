/- Chapter 20: SatisfiesClauses, the model's. -/
import Derived.Test.YtlhdagpimcafaaaDoorSat
namespace Go.Proofs.YtlhdagpimcafaaaDoor
open Go.RowKit
set_option linter.unusedVariables false
set_option maxRecDepth 100000

theorem any_take (p : Int → Bool) (l : List Int) (k : Nat) (hk : k < l.length) : (l.take (k + 1)).any p = ((l.take k).any p || p l[k]) := by
  rw [List.take_succ_eq_append_getElem hk, List.any_append]; simp
end Go.Proofs.YtlhdagpimcafaaaDoor
