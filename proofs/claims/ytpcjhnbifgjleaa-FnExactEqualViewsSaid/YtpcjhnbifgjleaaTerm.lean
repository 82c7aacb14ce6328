/- Chapter 10: terms: the model's and the program's functions that hand back plain values. -/
import Derived.Test.YtpcjhnbifgjleaaRelOne
namespace Go.Proofs.Ytpcjhnbifgjleaa
open Go.RowKit
set_option linter.unusedVariables false
set_option maxRecDepth 100000

/-- A term that is a constant: its value. -/
def termOk (t : Int) : Bool := inB (-1 - t) 0 9
def termVal (t : Int) : Int := if termOk t then -1 - t else 0
end Go.Proofs.Ytpcjhnbifgjleaa
