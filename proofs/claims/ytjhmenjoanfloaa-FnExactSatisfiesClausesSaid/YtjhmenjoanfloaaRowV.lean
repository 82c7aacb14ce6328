/- The readings of the laws' own types, as a row reads them. -/
import Derived.Test.YtjhmenjoanfloaaRowU
import Derived.Test.YtjhmenjoanfloaaTyI
import Derived.Test.YtjhmenjoanfloaaRd
namespace Go.Proofs.Ytjhmenjoanfloaa
open Go.RowKit Go.Deep
set_option linter.unusedVariables false
set_option maxRecDepth 100000

section
variable {H : Type} {enc : TypeId × Value → H} {w : World} {base : Nat} {spare : Nat → Bool} {held : Bool}
theorem rd_intSS {fuel : Nat} {cs : List Value} {x : DataW H × List MemPlace} (h : DataW.trod enc Try.prog w base spare held fuel 54 cs = some x) : ∃ y, (cSlice (cSlice cInt)).ok w.heap.size w y cs := rd_slice Try.underlying54 Try.cells_ints (by decide) (fun _ _ _ h => rd_intS h) h
theorem row_intSS {r0 : Reach} {b0 : Nat} {v : Value} {d : DataW H} {ps : List MemPlace} (hval : Value.okWide Try.prog w r0 b0 54 v) (h : DataW.Trod enc Try.prog w base spare held 54 v d ps) : ∃ a cap l, v = .slice a l.length cap ∧ At (cSlice (cSlice cInt)) w l [.slice a l.length cap] := row_slice Try.underlying54 Try.cells_ints (by decide) (fun _ _ _ h => rd_intS h) hval h
theorem Try.cells_intSS : Try.prog.cellsOf 54 = 1 := by kernel_rfl
theorem Try.cells_Embedding : Try.prog.cellsOf 24 = 2 := by kernel_rfl
theorem rd_Embedding {fuel : Nat} {cs : List Value} {x : DataW H × List MemPlace} (h : DataW.trod enc Try.prog w base spare held fuel 24 cs = some x) : ∃ y, cEmb.ok w.heap.size w y cs := by
  obtain ⟨xs, n, _, rfl, hl, hlen, hf⟩ := DataW.trod_struct Try.underlying24 h
  rw [Try.cells_Embedding] at hl
  have h0 := hf 0 _ rfl
  rw [List.getElem?_eq_getElem (by rw [hlen]; decide)] at h0
  have h1 := hf 1 _ rfl
  rw [List.getElem?_eq_getElem (by rw [hlen]; decide)] at h1
  match cs, hl with
  | [v0, v1], _ =>
    simp only [Try.cells_ints, List.getElem_toArray, List.getElem_cons_zero, List.getElem_cons_succ, List.drop_zero, List.drop_succ_cons, List.take_succ_cons, List.take_zero] at h0 h1
    obtain ⟨y0, k0⟩ := rd_intS h0
    obtain ⟨y1, k1⟩ := rd_intS h1
    exact ⟨⟨y0, y1⟩, [_], _, rfl, k0, k1⟩
theorem row_Embedding {r0 : Reach} {b0 : Nat} {v : Value} {d : DataW H} {ps : List MemPlace} (hval : Value.okWide Try.prog w r0 b0 24 v) (h : DataW.Trod enc Try.prog w base spare held 24 v d ps) : ∃ x a0 cap0 a1 cap1, v = .agg #[.slice a0 x.vals.length cap0, .slice a1 x.facts.length cap1] ∧ At cEmb w x [.slice a0 x.vals.length cap0, .slice a1 x.facts.length cap1] := by
  obtain ⟨x, cs, rfl, hx⟩ := row_struct Try.underlying24 (fun _ _ _ h => rd_Embedding h) hval h
  obtain ⟨a0, cap0, a1, cap1, rfl, h2⟩ := cEmb_open hx
  exact ⟨x, a0, cap0, a1, cap1, rfl, h2⟩
end
end Go.Proofs.Ytjhmenjoanfloaa

