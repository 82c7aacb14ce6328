/- The readings of the laws' own types, as a row reads them: structs in structs. -/
import Derived.Test.YtlcogbmceanghaaDoorTyEdt
import Derived.Test.YtlcogbmceanghaaDoorRowTwo
namespace Go.Proofs.YtlcogbmceanghaaDoor
open Go.RowKit Go.Deep
set_option linter.unusedSimpArgs false
set_option linter.unusedVariables false
set_option maxRecDepth 100000

section
variable {H : Type} {enc : TypeId × Value → H} {w : World} {base : Nat} {spare : Nat → Bool} {held : Bool}
theorem Tryd.cells_Edit : Tryd.prog.cellsOf 52 = 3 := by kernel_rfl
theorem rd_Edit {fuel : Nat} {cs : List Value} {x : DataW H × List MemPlace} (h : DataW.trod enc Tryd.prog w base spare held fuel 52 cs = some x) : ∃ y, cEdt.ok w.heap.size w y cs := by
  obtain ⟨xs, n, _, rfl, hl, hlen, hf⟩ := DataW.trod_struct Tryd.underlying52 h
  rw [Tryd.cells_Edit] at hl
  have h0 := hf 0 _ rfl
  rw [List.getElem?_eq_getElem (by rw [hlen]; decide)] at h0
  have h1 := hf 1 _ rfl
  rw [List.getElem?_eq_getElem (by rw [hlen]; decide)] at h1
  match cs, hl with
  | [v0, v1, v2], _ =>
    simp only [Tryd.cells_int, Tryd.cells_ints, Tryd.cells_Fact, List.getElem_toArray, List.getElem_cons_zero, List.getElem_cons_succ, List.drop_zero, List.drop_succ_cons, List.take_succ_cons, List.take_zero] at h0 h1
    obtain ⟨y0, k0⟩ := rd_int Tryd.underlying3 h0
    obtain ⟨y1, k1⟩ := rd_Fact h1
    exact ⟨⟨y0, y1⟩, [_], _, rfl, k0, k1⟩
theorem row_Edit {r0 : Reach} {b0 : Nat} {v : Value} {d : DataW H} {ps : List MemPlace} (hval : Value.okWide Tryd.prog w r0 b0 52 v) (h : DataW.Trod enc Tryd.prog w base spare held 52 v d ps) : ∃ x a2 cap2, v = .agg #[.int .i64 x.kind, .int .i64 x.fact.rel, .slice a2 x.fact.vals.length cap2] ∧ At cEdt w x [.int .i64 x.kind, .int .i64 x.fact.rel, .slice a2 x.fact.vals.length cap2] := by
  obtain ⟨x, cs, rfl, hx⟩ := row_struct Tryd.underlying52 (fun _ _ _ h => rd_Edit h) hval h
  obtain ⟨a2, cap2, rfl, h2⟩ := cEdt_open hx
  exact ⟨x, a2, cap2, rfl, h2⟩
end
end Go.Proofs.YtlcogbmceanghaaDoor

