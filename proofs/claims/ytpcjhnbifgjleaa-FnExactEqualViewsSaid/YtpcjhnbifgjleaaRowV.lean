/- The readings of the laws' own types, as a row reads them. -/
import Derived.Test.YtpcjhnbifgjleaaRowTwo
import Derived.Test.YtpcjhnbifgjleaaTyI
import Derived.Test.YtpcjhnbifgjleaaRd
namespace Go.Proofs.Ytpcjhnbifgjleaa
open Go.RowKit Go.Deep
set_option linter.unusedVariables false
set_option maxRecDepth 100000

section
variable {H : Type} {enc : TypeId × Value → H} {w : World} {base : Nat} {spare : Nat → Bool} {held : Bool}
theorem rd_intSS {fuel : Nat} {cs : List Value} {x : DataW H × List MemPlace} (h : DataW.trod enc Try.prog w base spare held fuel 30 cs = some x) : ∃ y, (cSlice (cSlice cInt)).ok w.heap.size w y cs := rd_slice Try.underlying30 Try.cells_ints (by decide) (fun _ _ _ h => rd_intS h) h
theorem row_intSS {r0 : Reach} {b0 : Nat} {v : Value} {d : DataW H} {ps : List MemPlace} (hval : Value.okWide Try.prog w r0 b0 30 v) (h : DataW.Trod enc Try.prog w base spare held 30 v d ps) : ∃ a cap l, v = .slice a l.length cap ∧ At (cSlice (cSlice cInt)) w l [.slice a l.length cap] := row_slice Try.underlying30 Try.cells_ints (by decide) (fun _ _ _ h => rd_intS h) hval h
theorem Try.cells_intSS : Try.prog.cellsOf 30 = 1 := by kernel_rfl
end
end Go.Proofs.Ytpcjhnbifgjleaa
