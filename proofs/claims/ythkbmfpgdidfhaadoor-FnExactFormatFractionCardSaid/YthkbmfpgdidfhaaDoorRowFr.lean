/- The readings of the laws' own types, as a row reads them. -/
import Derived.Test.YthkbmfpgdidfhaaDoorTyFr
import Derived.Test.YthkbmfpgdidfhaaDoorRd
namespace Go.Proofs.YthkbmfpgdidfhaaDoor
open Go.RowKit Go.Deep
set_option linter.unusedVariables false
set_option maxRecDepth 100000

theorem Tryd.cells_int : Tryd.prog.cellsOf 3 = 1 := by kernel_rfl
section
variable {H : Type} {enc : TypeId × Value → H} {w : World} {base : Nat} {spare : Nat → Bool} {held : Bool}
theorem Tryd.cells_Fraction : Tryd.prog.cellsOf 38 = 2 := by kernel_rfl
theorem rd_Fraction {fuel : Nat} {cs : List Value} {x : DataW H × List MemPlace} (h : DataW.trod enc Tryd.prog w base spare held fuel 38 cs = some x) : ∃ y, cFrc.ok w.heap.size w y cs := by
  obtain ⟨xs, n, _, rfl, hl, hlen, hf⟩ := DataW.trod_struct Tryd.underlying38 h
  rw [Tryd.cells_Fraction] at hl
  have h0 := hf 0 _ rfl
  rw [List.getElem?_eq_getElem (by rw [hlen]; decide)] at h0
  have h1 := hf 1 _ rfl
  rw [List.getElem?_eq_getElem (by rw [hlen]; decide)] at h1
  match cs, hl with
  | [v0, v1], _ =>
    simp only [Tryd.cells_int, List.getElem_toArray, List.getElem_cons_zero, List.getElem_cons_succ, List.drop_zero, List.drop_succ_cons, List.take_succ_cons, List.take_zero] at h0 h1
    obtain ⟨y0, k0⟩ := rd_int Tryd.underlying3 h0
    obtain ⟨y1, k1⟩ := rd_int Tryd.underlying3 h1
    exact ⟨⟨y0, y1⟩, [_], _, rfl, k0, k1⟩
theorem row_Fraction {r0 : Reach} {b0 : Nat} {v : Value} {d : DataW H} {ps : List MemPlace} (hval : Value.okWide Tryd.prog w r0 b0 38 v) (h : DataW.Trod enc Tryd.prog w base spare held 38 v d ps) : ∃ x, v = .agg #[.int .i64 x.num, .int .i64 x.den] ∧ At cFrc w x [.int .i64 x.num, .int .i64 x.den] := by
  obtain ⟨x, cs, rfl, hx⟩ := row_struct Tryd.underlying38 (fun _ _ _ h => rd_Fraction h) hval h
  obtain ⟨rfl, h2⟩ := cFrc_open hx
  exact ⟨x, rfl, h2⟩
end
end Go.Proofs.YthkbmfpgdidfhaaDoor

