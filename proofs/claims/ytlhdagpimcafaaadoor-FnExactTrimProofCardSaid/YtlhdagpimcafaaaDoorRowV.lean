/- The readings of the laws' own types, as a row reads them. -/
import Derived.Test.YtlhdagpimcafaaaDoorRowTwo
import Derived.Test.YtlhdagpimcafaaaDoorTyI
import Derived.Test.YtlhdagpimcafaaaDoorRd
namespace Go.Proofs.YtlhdagpimcafaaaDoor
open Go.RowKit Go.Deep
set_option linter.unusedVariables false
set_option maxRecDepth 100000

section
variable {H : Type} {enc : TypeId × Value → H} {w : World} {base : Nat} {spare : Nat → Bool} {held : Bool}
theorem rd_intSS {fuel : Nat} {cs : List Value} {x : DataW H × List MemPlace} (h : DataW.trod enc Tryd.prog w base spare held fuel 22 cs = some x) : ∃ y, (cSlice (cSlice cInt)).ok w.heap.size w y cs := rd_slice Tryd.underlying22 Tryd.cells_ints (by decide) (fun _ _ _ h => rd_intS h) h
theorem row_intSS {r0 : Reach} {b0 : Nat} {v : Value} {d : DataW H} {ps : List MemPlace} (hval : Value.okWide Tryd.prog w r0 b0 22 v) (h : DataW.Trod enc Tryd.prog w base spare held 22 v d ps) : ∃ a cap l, v = .slice a l.length cap ∧ At (cSlice (cSlice cInt)) w l [.slice a l.length cap] := row_slice Tryd.underlying22 Tryd.cells_ints (by decide) (fun _ _ _ h => rd_intS h) hval h
theorem Tryd.cells_intSS : Tryd.prog.cellsOf 22 = 1 := by kernel_rfl
end
end Go.Proofs.YtlhdagpimcafaaaDoor
