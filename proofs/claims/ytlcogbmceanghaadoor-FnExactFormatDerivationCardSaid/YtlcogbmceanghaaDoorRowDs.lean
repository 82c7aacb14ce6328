/- The readings of the laws' own types, as a row reads them. -/
import Derived.Test.YtlcogbmceanghaaDoorSlDs
import Derived.Test.YtlcogbmceanghaaDoorRowTwo
namespace Go.Proofs.YtlcogbmceanghaaDoor
open Go.RowKit Go.Deep
set_option linter.unusedVariables false
set_option maxRecDepth 100000

section
variable {H : Type} {enc : TypeId × Value → H} {w : World} {base : Nat} {spare : Nat → Bool} {held : Bool}
theorem Tryd.cells_DerivationStep : Tryd.prog.cellsOf 124 = 2 := by kernel_rfl
theorem rd_DerivationStep {fuel : Nat} {cs : List Value} {x : DataW H × List MemPlace} (h : DataW.trod enc Tryd.prog w base spare held fuel 124 cs = some x) : ∃ y, cDst.ok w.heap.size w y cs := by
  obtain ⟨xs, n, _, rfl, hl, hlen, hf⟩ := DataW.trod_struct Tryd.underlying124 h
  rw [Tryd.cells_DerivationStep] at hl
  have h0 := hf 0 _ rfl
  rw [List.getElem?_eq_getElem (by rw [hlen]; decide)] at h0
  have h1 := hf 1 _ rfl
  rw [List.getElem?_eq_getElem (by rw [hlen]; decide)] at h1
  match cs, hl with
  | [v0, v1], _ =>
    simp only [Tryd.cells_ints, Tryd.cells_int, List.getElem_toArray, List.getElem_cons_zero, List.getElem_cons_succ, List.drop_zero, List.drop_succ_cons, List.take_succ_cons, List.take_zero] at h0 h1
    obtain ⟨y0, k0⟩ := rd_intS h0
    obtain ⟨y1, k1⟩ := rd_int Tryd.underlying3 h1
    exact ⟨⟨y0, y1⟩, [_], _, rfl, k0, k1⟩
theorem row_DerivationStep {r0 : Reach} {b0 : Nat} {v : Value} {d : DataW H} {ps : List MemPlace} (hval : Value.okWide Tryd.prog w r0 b0 124 v) (h : DataW.Trod enc Tryd.prog w base spare held 124 v d ps) : ∃ x a0 cap0, v = .agg #[.slice a0 x.facts.length cap0, .int .i64 x.block] ∧ At cDst w x [.slice a0 x.facts.length cap0, .int .i64 x.block] := by
  obtain ⟨x, cs, rfl, hx⟩ := row_struct Tryd.underlying124 (fun _ _ _ h => rd_DerivationStep h) hval h
  obtain ⟨a0, cap0, rfl, h2⟩ := cDst_open hx
  exact ⟨x, a0, cap0, rfl, h2⟩
theorem rd_DerivationStepS {fuel : Nat} {cs : List Value} {x : DataW H × List MemPlace} (h : DataW.trod enc Tryd.prog w base spare held fuel 73 cs = some x) : ∃ y, (cSlice cDst).ok w.heap.size w y cs := rd_slice Tryd.underlying73 Tryd.cells_DerivationStep (by decide) (fun _ _ _ h => rd_DerivationStep h) h
theorem row_DerivationStepS {r0 : Reach} {b0 : Nat} {v : Value} {d : DataW H} {ps : List MemPlace} (hval : Value.okWide Tryd.prog w r0 b0 73 v) (h : DataW.Trod enc Tryd.prog w base spare held 73 v d ps) : ∃ a cap l, v = .slice a l.length cap ∧ At (cSlice cDst) w l [.slice a l.length cap] := row_slice Tryd.underlying73 Tryd.cells_DerivationStep (by decide) (fun _ _ _ h => rd_DerivationStep h) hval h
theorem Tryd.cells_DerivationStepS : Tryd.prog.cellsOf 73 = 1 := by kernel_rfl
end
end Go.Proofs.YtlcogbmceanghaaDoor

