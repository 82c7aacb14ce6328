/- RowTwo: RowT RowU. -/
import Derived.Test.YtjlelekkkbjcgaaDoorTyTwo
import Derived.Test.YtjlelekkkbjcgaaDoorRd
import Derived.Test.YtjlelekkkbjcgaaDoorTyTre
/- The readings of the laws' own types, as a row reads them. -/
namespace Go.Proofs.YtjlelekkkbjcgaaDoor
open Go.RowKit Go.Deep
set_option linter.unusedVariables false
set_option maxRecDepth 100000

theorem Tryd.cells_int : Tryd.prog.cellsOf 3 = 1 := by kernel_rfl
section
variable {H : Type} {enc : TypeId × Value → H} {w : World} {base : Nat} {spare : Nat → Bool} {held : Bool}
theorem rd_intS {fuel : Nat} {cs : List Value} {x : DataW H × List MemPlace} (h : DataW.trod enc Tryd.prog w base spare held fuel 23 cs = some x) : ∃ y, (cSlice cInt).ok w.heap.size w y cs := rd_slice Tryd.underlying23 Tryd.cells_int (by decide) (fun _ _ _ h => rd_int Tryd.underlying3 h) h
theorem row_intS {r0 : Reach} {b0 : Nat} {v : Value} {d : DataW H} {ps : List MemPlace} (hval : Value.okWide Tryd.prog w r0 b0 23 v) (h : DataW.Trod enc Tryd.prog w base spare held 23 v d ps) : ∃ a cap l, v = .slice a l.length cap ∧ At (cSlice cInt) w l [.slice a l.length cap] := row_slice Tryd.underlying23 Tryd.cells_int (by decide) (fun _ _ _ h => rd_int Tryd.underlying3 h) hval h
theorem Tryd.cells_ints : Tryd.prog.cellsOf 23 = 1 := by kernel_rfl
theorem Tryd.cells_str : Tryd.prog.cellsOf 9 = 1 := by kernel_rfl
end
end Go.Proofs.YtjlelekkkbjcgaaDoor
namespace Go.Proofs.YtjlelekkkbjcgaaDoor
open Go.RowKit Go.Deep
set_option linter.unusedVariables false
set_option maxRecDepth 100000
section
variable {H : Type} {enc : TypeId × Value → H} {w : World} {base : Nat} {spare : Nat → Bool} {held : Bool}
end
end Go.Proofs.YtjlelekkkbjcgaaDoor
