/- The readings of the laws' own types, as a row reads them. -/
import Derived.Test.YtlcogbmceanghaaDoorSlGr
import Derived.Test.YtlcogbmceanghaaDoorRd
import Derived.Test.YtlcogbmceanghaaDoorQvOne
namespace Go.Proofs.YtlcogbmceanghaaDoor
open Go.RowKit Go.Deep
set_option linter.unusedVariables false
set_option maxRecDepth 100000

theorem Tryd.cells_int : Tryd.prog.cellsOf 3 = 1 := by kernel_rfl
section
variable {H : Type} {enc : TypeId × Value → H} {w : World} {base : Nat} {spare : Nat → Bool} {held : Bool}
theorem Tryd.cells_GroupRange : Tryd.prog.cellsOf 107 = 4 := by kernel_rfl
theorem rd_GroupRange {fuel : Nat} {cs : List Value} {x : DataW H × List MemPlace} (h : DataW.trod enc Tryd.prog w base spare held fuel 107 cs = some x) : ∃ y, cGrp.ok w.heap.size w y cs := by
  obtain ⟨xs, n, _, rfl, hl, hlen, hf⟩ := DataW.trod_struct Tryd.underlying107 h
  rw [Tryd.cells_GroupRange] at hl
  have h0 := hf 0 _ rfl
  rw [List.getElem?_eq_getElem (by rw [hlen]; decide)] at h0
  have h1 := hf 1 _ rfl
  rw [List.getElem?_eq_getElem (by rw [hlen]; decide)] at h1
  have h2 := hf 2 _ rfl
  rw [List.getElem?_eq_getElem (by rw [hlen]; decide)] at h2
  have h3 := hf 3 _ rfl
  rw [List.getElem?_eq_getElem (by rw [hlen]; decide)] at h3
  match cs, hl with
  | [v0, v1, v2, v3], _ =>
    simp only [Tryd.cells_int, Tryd.cells_bool, List.getElem_toArray, List.getElem_cons_zero, List.getElem_cons_succ, List.drop_zero, List.drop_succ_cons, List.take_succ_cons, List.take_zero] at h0 h1 h2 h3
    obtain ⟨y0, k0⟩ := rd_int Tryd.underlying3 h0
    obtain ⟨y1, k1⟩ := rd_int Tryd.underlying3 h1
    obtain ⟨y2, k2⟩ := rd_int Tryd.underlying3 h2
    obtain ⟨y3, k3⟩ := rd_bool Tryd.underlying4 h3
    exact ⟨⟨y0, y1, y2, y3⟩, [_], _, rfl, k0, [_], _, rfl, k1, [_], _, rfl, k2, k3⟩
theorem row_GroupRange {r0 : Reach} {b0 : Nat} {v : Value} {d : DataW H} {ps : List MemPlace} (hval : Value.okWide Tryd.prog w r0 b0 107 v) (h : DataW.Trod enc Tryd.prog w base spare held 107 v d ps) : ∃ x, v = .agg #[.int .i64 x.val, .int .i64 x.lo, .int .i64 x.hi, .bool x.all] ∧ At cGrp w x [.int .i64 x.val, .int .i64 x.lo, .int .i64 x.hi, .bool x.all] := by
  obtain ⟨x, cs, rfl, hx⟩ := row_struct Tryd.underlying107 (fun _ _ _ h => rd_GroupRange h) hval h
  obtain ⟨rfl, h2⟩ := cGrp_open hx
  exact ⟨x, rfl, h2⟩
theorem rd_GroupRangeS {fuel : Nat} {cs : List Value} {x : DataW H × List MemPlace} (h : DataW.trod enc Tryd.prog w base spare held fuel 39 cs = some x) : ∃ y, (cSlice cGrp).ok w.heap.size w y cs := rd_slice Tryd.underlying39 Tryd.cells_GroupRange (by decide) (fun _ _ _ h => rd_GroupRange h) h
theorem row_GroupRangeS {r0 : Reach} {b0 : Nat} {v : Value} {d : DataW H} {ps : List MemPlace} (hval : Value.okWide Tryd.prog w r0 b0 39 v) (h : DataW.Trod enc Tryd.prog w base spare held 39 v d ps) : ∃ a cap l, v = .slice a l.length cap ∧ At (cSlice cGrp) w l [.slice a l.length cap] := row_slice Tryd.underlying39 Tryd.cells_GroupRange (by decide) (fun _ _ _ h => rd_GroupRange h) hval h
theorem Tryd.cells_GroupRangeS : Tryd.prog.cellsOf 39 = 1 := by kernel_rfl
end
end Go.Proofs.YtlcogbmceanghaaDoor

