/- The readings of the laws' own types, as a row reads them: structs in structs. -/
import Derived.Test.YtlcogbmceanghaaSlRst
import Derived.Test.YtlcogbmceanghaaRowTwo
namespace Go.Proofs.Ytlcogbmceanghaa
open Go.RowKit Go.Deep
set_option linter.unusedSimpArgs false
set_option linter.unusedVariables false
set_option maxRecDepth 100000

section
variable {H : Type} {enc : TypeId × Value → H} {w : World} {base : Nat} {spare : Nat → Bool} {held : Bool}
theorem Try.cells_RewritingStep : Try.prog.cellsOf 42 = 4 := by kernel_rfl
theorem rd_RewritingStep {fuel : Nat} {cs : List Value} {x : DataW H × List MemPlace} (h : DataW.trod enc Try.prog w base spare held fuel 42 cs = some x) : ∃ y, cRst.ok w.heap.size w y cs := by
  obtain ⟨xs, n, _, rfl, hl, hlen, hf⟩ := DataW.trod_struct Try.underlying42 h
  rw [Try.cells_RewritingStep] at hl
  have h0 := hf 0 _ rfl
  rw [List.getElem?_eq_getElem (by rw [hlen]; decide)] at h0
  have h1 := hf 1 _ rfl
  rw [List.getElem?_eq_getElem (by rw [hlen]; decide)] at h1
  have h2 := hf 2 _ rfl
  rw [List.getElem?_eq_getElem (by rw [hlen]; decide)] at h2
  match cs, hl with
  | [v0, v1, v2, v3], _ =>
    simp only [Try.cells_int, Try.cells_ints, Try.cells_Atom, List.getElem_toArray, List.getElem_cons_zero, List.getElem_cons_succ, List.drop_zero, List.drop_succ_cons, List.take_succ_cons, List.take_zero] at h0 h1 h2
    obtain ⟨y0, k0⟩ := rd_Atom h0
    obtain ⟨y1, k1⟩ := rd_intS h1
    obtain ⟨y2, k2⟩ := rd_intS h2
    exact ⟨⟨y0, y1, y2⟩, [_, _], _, rfl, k0, [_], _, rfl, k1, k2⟩
theorem row_RewritingStep {r0 : Reach} {b0 : Nat} {v : Value} {d : DataW H} {ps : List MemPlace} (hval : Value.okWide Try.prog w r0 b0 42 v) (h : DataW.Trod enc Try.prog w base spare held 42 v d ps) : ∃ x a1 cap1 a2 cap2 a3 cap3, v = .agg #[.int .i64 x.atom.rel, .slice a1 x.atom.terms.length cap1, .slice a2 x.ex.length cap2, .slice a3 x.un.length cap3] ∧ At cRst w x [.int .i64 x.atom.rel, .slice a1 x.atom.terms.length cap1, .slice a2 x.ex.length cap2, .slice a3 x.un.length cap3] := by
  obtain ⟨x, cs, rfl, hx⟩ := row_struct Try.underlying42 (fun _ _ _ h => rd_RewritingStep h) hval h
  obtain ⟨a1, cap1, a2, cap2, a3, cap3, rfl, h2⟩ := cRst_open hx
  exact ⟨x, a1, cap1, a2, cap2, a3, cap3, rfl, h2⟩
theorem rd_RewritingStepS {fuel : Nat} {cs : List Value} {x : DataW H × List MemPlace} (h : DataW.trod enc Try.prog w base spare held fuel 23 cs = some x) : ∃ y, (cSlice cRst).ok w.heap.size w y cs := rd_slice Try.underlying23 Try.cells_RewritingStep (by decide) (fun _ _ _ h => rd_RewritingStep h) h
theorem row_RewritingStepS {r0 : Reach} {b0 : Nat} {v : Value} {d : DataW H} {ps : List MemPlace} (hval : Value.okWide Try.prog w r0 b0 23 v) (h : DataW.Trod enc Try.prog w base spare held 23 v d ps) : ∃ a cap l, v = .slice a l.length cap ∧ At (cSlice cRst) w l [.slice a l.length cap] := row_slice Try.underlying23 Try.cells_RewritingStep (by decide) (fun _ _ _ h => rd_RewritingStep h) hval h
end
end Go.Proofs.Ytlcogbmceanghaa

