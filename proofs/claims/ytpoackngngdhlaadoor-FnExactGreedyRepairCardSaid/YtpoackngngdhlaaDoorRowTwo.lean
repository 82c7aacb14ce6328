/- RowTwo: RowT RowU. -/
import Derived.Test.YtpoackngngdhlaaDoorTyTwo
import Derived.Test.YtpoackngngdhlaaDoorRd
import Derived.Test.YtpoackngngdhlaaDoorTyTre
/- The readings of the laws' own types, as a row reads them. -/
namespace Go.Proofs.YtpoackngngdhlaaDoor
open Go.RowKit Go.Deep
set_option linter.unusedVariables false
set_option maxRecDepth 100000

theorem Tryd.cells_int : Tryd.prog.cellsOf 3 = 1 := by kernel_rfl
section
variable {H : Type} {enc : TypeId × Value → H} {w : World} {base : Nat} {spare : Nat → Bool} {held : Bool}
theorem rd_intS {fuel : Nat} {cs : List Value} {x : DataW H × List MemPlace} (h : DataW.trod enc Tryd.prog w base spare held fuel 23 cs = some x) : ∃ y, (cSlice cInt).ok w.heap.size w y cs := rd_slice Tryd.underlying23 Tryd.cells_int (by decide) (fun _ _ _ h => rd_int Tryd.underlying3 h) h
theorem row_intS {r0 : Reach} {b0 : Nat} {v : Value} {d : DataW H} {ps : List MemPlace} (hval : Value.okWide Tryd.prog w r0 b0 23 v) (h : DataW.Trod enc Tryd.prog w base spare held 23 v d ps) : ∃ a cap l, v = .slice a l.length cap ∧ At (cSlice cInt) w l [.slice a l.length cap] := row_slice Tryd.underlying23 Tryd.cells_int (by decide) (fun _ _ _ h => rd_int Tryd.underlying3 h) hval h
theorem Tryd.cells_ints : Tryd.prog.cellsOf 23 = 1 := by kernel_rfl
theorem Tryd.cells_str : Tryd.prog.cellsOf 9 = 1 := by kernel_rfl
end
end Go.Proofs.YtpoackngngdhlaaDoor
namespace Go.Proofs.YtpoackngngdhlaaDoor
open Go.RowKit Go.Deep
set_option linter.unusedVariables false
set_option maxRecDepth 100000
section
variable {H : Type} {enc : TypeId × Value → H} {w : World} {base : Nat} {spare : Nat → Bool} {held : Bool}
theorem Tryd.cells_ConflictEdge : Tryd.prog.cellsOf 43 = 2 := by kernel_rfl
theorem rd_ConflictEdge {fuel : Nat} {cs : List Value} {x : DataW H × List MemPlace} (h : DataW.trod enc Tryd.prog w base spare held fuel 43 cs = some x) : ∃ y, cEdg.ok w.heap.size w y cs := by
  obtain ⟨xs, n, _, rfl, hl, hlen, hf⟩ := DataW.trod_struct Tryd.underlying43 h
  rw [Tryd.cells_ConflictEdge] at hl
  have h0 := hf 0 _ rfl
  rw [List.getElem?_eq_getElem (by rw [hlen]; decide)] at h0
  have h1 := hf 1 _ rfl
  rw [List.getElem?_eq_getElem (by rw [hlen]; decide)] at h1
  match cs, hl with
  | [v0, v1], _ =>
    simp only [Tryd.cells_int, List.getElem_toArray, List.getElem_cons_zero, List.getElem_cons_succ, List.drop_zero, List.drop_succ_cons, List.take_succ_cons, List.take_zero] at h0 h1
    obtain ⟨y0, k0⟩ := rd_int Tryd.underlying3 h0
    obtain ⟨y1, k1⟩ := rd_int Tryd.underlying3 h1
    exact ⟨⟨y0, y1⟩, [_], _, rfl, k0, k1⟩
theorem row_ConflictEdge {r0 : Reach} {b0 : Nat} {v : Value} {d : DataW H} {ps : List MemPlace} (hval : Value.okWide Tryd.prog w r0 b0 43 v) (h : DataW.Trod enc Tryd.prog w base spare held 43 v d ps) : ∃ x, v = .agg #[.int .i64 x.a, .int .i64 x.b] ∧ At cEdg w x [.int .i64 x.a, .int .i64 x.b] := by
  obtain ⟨x, cs, rfl, hx⟩ := row_struct Tryd.underlying43 (fun _ _ _ h => rd_ConflictEdge h) hval h
  obtain ⟨rfl, h2⟩ := cEdg_open hx
  exact ⟨x, rfl, h2⟩
theorem rd_ConflictEdgeS {fuel : Nat} {cs : List Value} {x : DataW H × List MemPlace} (h : DataW.trod enc Tryd.prog w base spare held fuel 22 cs = some x) : ∃ y, (cSlice cEdg).ok w.heap.size w y cs := rd_slice Tryd.underlying22 Tryd.cells_ConflictEdge (by decide) (fun _ _ _ h => rd_ConflictEdge h) h
theorem row_ConflictEdgeS {r0 : Reach} {b0 : Nat} {v : Value} {d : DataW H} {ps : List MemPlace} (hval : Value.okWide Tryd.prog w r0 b0 22 v) (h : DataW.Trod enc Tryd.prog w base spare held 22 v d ps) : ∃ a cap l, v = .slice a l.length cap ∧ At (cSlice cEdg) w l [.slice a l.length cap] := row_slice Tryd.underlying22 Tryd.cells_ConflictEdge (by decide) (fun _ _ _ h => rd_ConflictEdge h) hval h
theorem Tryd.cells_ConflictEdgeS : Tryd.prog.cellsOf 22 = 1 := by kernel_rfl
end
end Go.Proofs.YtpoackngngdhlaaDoor
