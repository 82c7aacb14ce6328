/- The laws' marks in slices of facts and in slices of slices of numbers. -/
import Derived.Test.YtjhmenjoanfloaaMarkE
import Derived.Deep.Cut
namespace Go.Proofs.Ytjhmenjoanfloaa
open Go.RowKit
set_option linter.unusedVariables false
set_option maxRecDepth 100000

/-- Marks in a fact of a list. -/
def markF (k : Nat) (x : Fct) : Fct := ⟨(k : Int), markI (k + 1) x.vals⟩
/-- The leaves of a fact of a list. -/
def lvF (x : Fct) : Nat := x.vals.length + 1
def markFs (k : Nat) (l : List Fct) : List Fct := markL markF lvF k l
end Go.Proofs.Ytjhmenjoanfloaa
