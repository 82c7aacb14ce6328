/- RowTwo: RowT RowU. -/
import Derived.Test.YtlhdagpimcafaaaDoorTyTwo
import Derived.Test.YtlhdagpimcafaaaDoorRd
import Derived.Test.YtlhdagpimcafaaaDoorTyTre
/- The readings of the laws' own types, as a row reads them. -/
namespace Go.Proofs.YtlhdagpimcafaaaDoor
open Go.RowKit Go.Deep
set_option linter.unusedVariables false
set_option maxRecDepth 100000

theorem Tryd.cells_int : Tryd.prog.cellsOf 3 = 1 := by kernel_rfl
section
variable {H : Type} {enc : TypeId × Value → H} {w : World} {base : Nat} {spare : Nat → Bool} {held : Bool}
theorem rd_intS {fuel : Nat} {cs : List Value} {x : DataW H × List MemPlace} (h : DataW.trod enc Tryd.prog w base spare held fuel 24 cs = some x) : ∃ y, (cSlice cInt).ok w.heap.size w y cs := rd_slice Tryd.underlying24 Tryd.cells_int (by decide) (fun _ _ _ h => rd_int Tryd.underlying3 h) h
theorem row_intS {r0 : Reach} {b0 : Nat} {v : Value} {d : DataW H} {ps : List MemPlace} (hval : Value.okWide Tryd.prog w r0 b0 24 v) (h : DataW.Trod enc Tryd.prog w base spare held 24 v d ps) : ∃ a cap l, v = .slice a l.length cap ∧ At (cSlice cInt) w l [.slice a l.length cap] := row_slice Tryd.underlying24 Tryd.cells_int (by decide) (fun _ _ _ h => rd_int Tryd.underlying3 h) hval h
theorem Tryd.cells_ints : Tryd.prog.cellsOf 24 = 1 := by kernel_rfl
theorem Tryd.cells_str : Tryd.prog.cellsOf 9 = 1 := by kernel_rfl
end
end Go.Proofs.YtlhdagpimcafaaaDoor
namespace Go.Proofs.YtlhdagpimcafaaaDoor
open Go.RowKit Go.Deep
set_option linter.unusedVariables false
set_option maxRecDepth 100000
section
variable {H : Type} {enc : TypeId × Value → H} {w : World} {base : Nat} {spare : Nat → Bool} {held : Bool}
end
end Go.Proofs.YtlhdagpimcafaaaDoor
