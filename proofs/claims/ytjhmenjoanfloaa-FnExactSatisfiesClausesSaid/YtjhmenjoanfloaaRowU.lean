/- The readings of the laws' own types, as a row reads them: constraints, edges, atoms, queries. -/
import Derived.Test.YtjhmenjoanfloaaRowT
import Derived.Test.YtjhmenjoanfloaaTyH
namespace Go.Proofs.Ytjhmenjoanfloaa
open Go.RowKit Go.Deep
set_option linter.unusedVariables false
set_option maxRecDepth 100000

section
variable {H : Type} {enc : TypeId × Value → H} {w : World} {base : Nat} {spare : Nat → Bool} {held : Bool}
theorem Try.cells_Atom : Try.prog.cellsOf 114 = 2 := by kernel_rfl
theorem rd_Atom {fuel : Nat} {cs : List Value} {x : DataW H × List MemPlace} (h : DataW.trod enc Try.prog w base spare held fuel 114 cs = some x) : ∃ y, cAtm.ok w.heap.size w y cs := by
  obtain ⟨xs, n, _, rfl, hl, hlen, hf⟩ := DataW.trod_struct Try.underlying114 h
  rw [Try.cells_Atom] at hl
  have h0 := hf 0 _ rfl
  rw [List.getElem?_eq_getElem (by rw [hlen]; decide)] at h0
  have h1 := hf 1 _ rfl
  rw [List.getElem?_eq_getElem (by rw [hlen]; decide)] at h1
  match cs, hl with
  | [v0, v1], _ =>
    simp only [Try.cells_int, Try.cells_ints, List.getElem_toArray, List.getElem_cons_zero, List.getElem_cons_succ, List.drop_zero, List.drop_succ_cons, List.take_succ_cons, List.take_zero] at h0 h1
    obtain ⟨y0, k0⟩ := rd_int Try.underlying3 h0
    obtain ⟨y1, k1⟩ := rd_intS h1
    exact ⟨⟨y0, y1⟩, [_], _, rfl, k0, k1⟩
theorem row_Atom {r0 : Reach} {b0 : Nat} {v : Value} {d : DataW H} {ps : List MemPlace} (hval : Value.okWide Try.prog w r0 b0 114 v) (h : DataW.Trod enc Try.prog w base spare held 114 v d ps) : ∃ x a1 cap1, v = .agg #[.int .i64 x.rel, .slice a1 x.terms.length cap1] ∧ At cAtm w x [.int .i64 x.rel, .slice a1 x.terms.length cap1] := by
  obtain ⟨x, cs, rfl, hx⟩ := row_struct Try.underlying114 (fun _ _ _ h => rd_Atom h) hval h
  obtain ⟨a1, cap1, rfl, h2⟩ := cAtm_open hx
  exact ⟨x, a1, cap1, rfl, h2⟩
theorem rd_AtomS {fuel : Nat} {cs : List Value} {x : DataW H × List MemPlace} (h : DataW.trod enc Try.prog w base spare held fuel 30 cs = some x) : ∃ y, (cSlice cAtm).ok w.heap.size w y cs := rd_slice Try.underlying30 Try.cells_Atom (by decide) (fun _ _ _ h => rd_Atom h) h
theorem row_AtomS {r0 : Reach} {b0 : Nat} {v : Value} {d : DataW H} {ps : List MemPlace} (hval : Value.okWide Try.prog w r0 b0 30 v) (h : DataW.Trod enc Try.prog w base spare held 30 v d ps) : ∃ a cap l, v = .slice a l.length cap ∧ At (cSlice cAtm) w l [.slice a l.length cap] := row_slice Try.underlying30 Try.cells_Atom (by decide) (fun _ _ _ h => rd_Atom h) hval h
theorem Try.cells_AtomS : Try.prog.cellsOf 30 = 1 := by kernel_rfl
theorem Try.cells_Query : Try.prog.cellsOf 32 = 3 := by kernel_rfl
theorem rd_Query {fuel : Nat} {cs : List Value} {x : DataW H × List MemPlace} (h : DataW.trod enc Try.prog w base spare held fuel 32 cs = some x) : ∃ y, cQry.ok w.heap.size w y cs := by
  obtain ⟨xs, n, _, rfl, hl, hlen, hf⟩ := DataW.trod_struct Try.underlying32 h
  rw [Try.cells_Query] at hl
  have h0 := hf 0 _ rfl
  rw [List.getElem?_eq_getElem (by rw [hlen]; decide)] at h0
  have h1 := hf 1 _ rfl
  rw [List.getElem?_eq_getElem (by rw [hlen]; decide)] at h1
  have h2 := hf 2 _ rfl
  rw [List.getElem?_eq_getElem (by rw [hlen]; decide)] at h2
  match cs, hl with
  | [v0, v1, v2], _ =>
    simp only [Try.cells_int, Try.cells_AtomS, Try.cells_ints, List.getElem_toArray, List.getElem_cons_zero, List.getElem_cons_succ, List.drop_zero, List.drop_succ_cons, List.take_succ_cons, List.take_zero] at h0 h1 h2
    obtain ⟨y0, k0⟩ := rd_int Try.underlying3 h0
    obtain ⟨y1, k1⟩ := rd_AtomS h1
    obtain ⟨y2, k2⟩ := rd_intS h2
    exact ⟨⟨y0, y1, y2⟩, [_], _, rfl, k0, [_], _, rfl, k1, k2⟩
theorem row_Query {r0 : Reach} {b0 : Nat} {v : Value} {d : DataW H} {ps : List MemPlace} (hval : Value.okWide Try.prog w r0 b0 32 v) (h : DataW.Trod enc Try.prog w base spare held 32 v d ps) : ∃ x a1 cap1 a2 cap2, v = .agg #[.int .i64 x.vars, .slice a1 x.atoms.length cap1, .slice a2 x.free.length cap2] ∧ At cQry w x [.int .i64 x.vars, .slice a1 x.atoms.length cap1, .slice a2 x.free.length cap2] := by
  obtain ⟨x, cs, rfl, hx⟩ := row_struct Try.underlying32 (fun _ _ _ h => rd_Query h) hval h
  obtain ⟨a1, cap1, a2, cap2, rfl, h2⟩ := cQry_open hx
  exact ⟨x, a1, cap1, a2, cap2, rfl, h2⟩
end
end Go.Proofs.Ytjhmenjoanfloaa

