/- The readings of the laws' own types, as a row reads them: constraints, edges, atoms, queries. -/
import Derived.Test.YtmofmepbekffiaaRowT
import Derived.Test.YtmofmepbekffiaaTyH
namespace Go.Proofs.Ytmofmepbekffiaa
open Go.RowKit Go.Deep
set_option linter.unusedVariables false
set_option maxRecDepth 100000

section
variable {H : Type} {enc : TypeId × Value → H} {w : World} {base : Nat} {spare : Nat → Bool} {held : Bool}
theorem Try.cells_ConflictEdge : Try.prog.cellsOf 116 = 2 := by kernel_rfl
theorem rd_ConflictEdge {fuel : Nat} {cs : List Value} {x : DataW H × List MemPlace} (h : DataW.trod enc Try.prog w base spare held fuel 116 cs = some x) : ∃ y, cEdg.ok w.heap.size w y cs := by
  obtain ⟨xs, n, _, rfl, hl, hlen, hf⟩ := DataW.trod_struct Try.underlying116 h
  rw [Try.cells_ConflictEdge] at hl
  have h0 := hf 0 _ rfl
  rw [List.getElem?_eq_getElem (by rw [hlen]; decide)] at h0
  have h1 := hf 1 _ rfl
  rw [List.getElem?_eq_getElem (by rw [hlen]; decide)] at h1
  match cs, hl with
  | [v0, v1], _ =>
    simp only [Try.cells_int, List.getElem_toArray, List.getElem_cons_zero, List.getElem_cons_succ, List.drop_zero, List.drop_succ_cons, List.take_succ_cons, List.take_zero] at h0 h1
    obtain ⟨y0, k0⟩ := rd_int Try.underlying3 h0
    obtain ⟨y1, k1⟩ := rd_int Try.underlying3 h1
    exact ⟨⟨y0, y1⟩, [_], _, rfl, k0, k1⟩
theorem row_ConflictEdge {r0 : Reach} {b0 : Nat} {v : Value} {d : DataW H} {ps : List MemPlace} (hval : Value.okWide Try.prog w r0 b0 116 v) (h : DataW.Trod enc Try.prog w base spare held 116 v d ps) : ∃ x, v = .agg #[.int .i64 x.a, .int .i64 x.b] ∧ At cEdg w x [.int .i64 x.a, .int .i64 x.b] := by
  obtain ⟨x, cs, rfl, hx⟩ := row_struct Try.underlying116 (fun _ _ _ h => rd_ConflictEdge h) hval h
  obtain ⟨rfl, h2⟩ := cEdg_open hx
  exact ⟨x, rfl, h2⟩
theorem rd_ConflictEdgeS {fuel : Nat} {cs : List Value} {x : DataW H × List MemPlace} (h : DataW.trod enc Try.prog w base spare held fuel 67 cs = some x) : ∃ y, (cSlice cEdg).ok w.heap.size w y cs := rd_slice Try.underlying67 Try.cells_ConflictEdge (by decide) (fun _ _ _ h => rd_ConflictEdge h) h
theorem row_ConflictEdgeS {r0 : Reach} {b0 : Nat} {v : Value} {d : DataW H} {ps : List MemPlace} (hval : Value.okWide Try.prog w r0 b0 67 v) (h : DataW.Trod enc Try.prog w base spare held 67 v d ps) : ∃ a cap l, v = .slice a l.length cap ∧ At (cSlice cEdg) w l [.slice a l.length cap] := row_slice Try.underlying67 Try.cells_ConflictEdge (by decide) (fun _ _ _ h => rd_ConflictEdge h) hval h
theorem Try.cells_ConflictEdgeS : Try.prog.cellsOf 67 = 1 := by kernel_rfl
theorem Try.cells_Atom : Try.prog.cellsOf 123 = 2 := by kernel_rfl
theorem rd_Atom {fuel : Nat} {cs : List Value} {x : DataW H × List MemPlace} (h : DataW.trod enc Try.prog w base spare held fuel 123 cs = some x) : ∃ y, cAtm.ok w.heap.size w y cs := by
  obtain ⟨xs, n, _, rfl, hl, hlen, hf⟩ := DataW.trod_struct Try.underlying123 h
  rw [Try.cells_Atom] at hl
  have h0 := hf 0 _ rfl
  rw [List.getElem?_eq_getElem (by rw [hlen]; decide)] at h0
  have h1 := hf 1 _ rfl
  rw [List.getElem?_eq_getElem (by rw [hlen]; decide)] at h1
  match cs, hl with
  | [v0, v1], _ =>
    simp only [Try.cells_int, Try.cells_ints, List.getElem_toArray, List.getElem_cons_zero, List.getElem_cons_succ, List.drop_zero, List.drop_succ_cons, List.take_succ_cons, List.take_zero] at h0 h1
    obtain ⟨y0, k0⟩ := rd_int Try.underlying3 h0
    obtain ⟨y1, k1⟩ := rd_intS h1
    exact ⟨⟨y0, y1⟩, [_], _, rfl, k0, k1⟩
theorem row_Atom {r0 : Reach} {b0 : Nat} {v : Value} {d : DataW H} {ps : List MemPlace} (hval : Value.okWide Try.prog w r0 b0 123 v) (h : DataW.Trod enc Try.prog w base spare held 123 v d ps) : ∃ x a1 cap1, v = .agg #[.int .i64 x.rel, .slice a1 x.terms.length cap1] ∧ At cAtm w x [.int .i64 x.rel, .slice a1 x.terms.length cap1] := by
  obtain ⟨x, cs, rfl, hx⟩ := row_struct Try.underlying123 (fun _ _ _ h => rd_Atom h) hval h
  obtain ⟨a1, cap1, rfl, h2⟩ := cAtm_open hx
  exact ⟨x, a1, cap1, rfl, h2⟩
theorem rd_AtomS {fuel : Nat} {cs : List Value} {x : DataW H × List MemPlace} (h : DataW.trod enc Try.prog w base spare held fuel 23 cs = some x) : ∃ y, (cSlice cAtm).ok w.heap.size w y cs := rd_slice Try.underlying23 Try.cells_Atom (by decide) (fun _ _ _ h => rd_Atom h) h
theorem row_AtomS {r0 : Reach} {b0 : Nat} {v : Value} {d : DataW H} {ps : List MemPlace} (hval : Value.okWide Try.prog w r0 b0 23 v) (h : DataW.Trod enc Try.prog w base spare held 23 v d ps) : ∃ a cap l, v = .slice a l.length cap ∧ At (cSlice cAtm) w l [.slice a l.length cap] := row_slice Try.underlying23 Try.cells_Atom (by decide) (fun _ _ _ h => rd_Atom h) hval h
theorem Try.cells_AtomS : Try.prog.cellsOf 23 = 1 := by kernel_rfl
theorem Try.cells_Query : Try.prog.cellsOf 26 = 3 := by kernel_rfl
theorem rd_Query {fuel : Nat} {cs : List Value} {x : DataW H × List MemPlace} (h : DataW.trod enc Try.prog w base spare held fuel 26 cs = some x) : ∃ y, cQry.ok w.heap.size w y cs := by
  obtain ⟨xs, n, _, rfl, hl, hlen, hf⟩ := DataW.trod_struct Try.underlying26 h
  rw [Try.cells_Query] at hl
  have h0 := hf 0 _ rfl
  rw [List.getElem?_eq_getElem (by rw [hlen]; decide)] at h0
  have h1 := hf 1 _ rfl
  rw [List.getElem?_eq_getElem (by rw [hlen]; decide)] at h1
  have h2 := hf 2 _ rfl
  rw [List.getElem?_eq_getElem (by rw [hlen]; decide)] at h2
  match cs, hl with
  | [v0, v1, v2], _ =>
    simp only [Try.cells_int, Try.cells_AtomS, Try.cells_ints, List.getElem_toArray, List.getElem_cons_zero, List.getElem_cons_succ, List.drop_zero, List.drop_succ_cons, List.take_succ_cons, List.take_zero] at h0 h1 h2
    obtain ⟨y0, k0⟩ := rd_int Try.underlying3 h0
    obtain ⟨y1, k1⟩ := rd_AtomS h1
    obtain ⟨y2, k2⟩ := rd_intS h2
    exact ⟨⟨y0, y1, y2⟩, [_], _, rfl, k0, [_], _, rfl, k1, k2⟩
theorem row_Query {r0 : Reach} {b0 : Nat} {v : Value} {d : DataW H} {ps : List MemPlace} (hval : Value.okWide Try.prog w r0 b0 26 v) (h : DataW.Trod enc Try.prog w base spare held 26 v d ps) : ∃ x a1 cap1 a2 cap2, v = .agg #[.int .i64 x.vars, .slice a1 x.atoms.length cap1, .slice a2 x.free.length cap2] ∧ At cQry w x [.int .i64 x.vars, .slice a1 x.atoms.length cap1, .slice a2 x.free.length cap2] := by
  obtain ⟨x, cs, rfl, hx⟩ := row_struct Try.underlying26 (fun _ _ _ h => rd_Query h) hval h
  obtain ⟨a1, cap1, a2, cap2, rfl, h2⟩ := cQry_open hx
  exact ⟨x, a1, cap1, a2, cap2, rfl, h2⟩
end
end Go.Proofs.Ytmofmepbekffiaa

