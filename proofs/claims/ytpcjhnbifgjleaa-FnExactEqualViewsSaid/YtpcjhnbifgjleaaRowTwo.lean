/- RowTwo: RowT RowU. -/
import Derived.Test.YtpcjhnbifgjleaaTyTwo
import Derived.Test.YtpcjhnbifgjleaaRd
import Derived.Test.YtpcjhnbifgjleaaTyTre
/- The readings of the laws' own types, as a row reads them. -/
namespace Go.Proofs.Ytpcjhnbifgjleaa
open Go.RowKit Go.Deep
set_option linter.unusedVariables false
set_option maxRecDepth 100000

theorem Try.cells_int : Try.prog.cellsOf 3 = 1 := by kernel_rfl
section
variable {H : Type} {enc : TypeId × Value → H} {w : World} {base : Nat} {spare : Nat → Bool} {held : Bool}
theorem rd_intS {fuel : Nat} {cs : List Value} {x : DataW H × List MemPlace} (h : DataW.trod enc Try.prog w base spare held fuel 27 cs = some x) : ∃ y, (cSlice cInt).ok w.heap.size w y cs := rd_slice Try.underlying27 Try.cells_int (by decide) (fun _ _ _ h => rd_int Try.underlying3 h) h
theorem row_intS {r0 : Reach} {b0 : Nat} {v : Value} {d : DataW H} {ps : List MemPlace} (hval : Value.okWide Try.prog w r0 b0 27 v) (h : DataW.Trod enc Try.prog w base spare held 27 v d ps) : ∃ a cap l, v = .slice a l.length cap ∧ At (cSlice cInt) w l [.slice a l.length cap] := row_slice Try.underlying27 Try.cells_int (by decide) (fun _ _ _ h => rd_int Try.underlying3 h) hval h
theorem Try.cells_ints : Try.prog.cellsOf 27 = 1 := by kernel_rfl
theorem Try.cells_str : Try.prog.cellsOf 9 = 1 := by kernel_rfl
theorem Try.cells_Relation : Try.prog.cellsOf 81 = 3 := by kernel_rfl
theorem rd_Relation {fuel : Nat} {cs : List Value} {x : DataW H × List MemPlace} (h : DataW.trod enc Try.prog w base spare held fuel 81 cs = some x) : ∃ y, cRel.ok w.heap.size w y cs := by
  obtain ⟨xs, n, _, rfl, hl, hlen, hf⟩ := DataW.trod_struct Try.underlying81 h
  rw [Try.cells_Relation] at hl
  have h0 := hf 0 _ rfl
  rw [List.getElem?_eq_getElem (by rw [hlen]; decide)] at h0
  have h1 := hf 1 _ rfl
  rw [List.getElem?_eq_getElem (by rw [hlen]; decide)] at h1
  have h2 := hf 2 _ rfl
  rw [List.getElem?_eq_getElem (by rw [hlen]; decide)] at h2
  match cs, hl with
  | [v0, v1, v2], _ =>
    simp only [Try.cells_str, Try.cells_int, List.getElem_toArray, List.getElem_cons_zero, List.getElem_cons_succ, List.drop_zero, List.drop_succ_cons, List.take_succ_cons, List.take_zero] at h0 h1 h2
    obtain ⟨y0, k0⟩ := rd_string Try.underlying9 h0
    obtain ⟨y1, k1⟩ := rd_int Try.underlying3 h1
    obtain ⟨y2, k2⟩ := rd_int Try.underlying3 h2
    exact ⟨⟨y0, y1, y2⟩, [_], _, rfl, k0, [_], _, rfl, k1, k2⟩
theorem row_Relation {r0 : Reach} {b0 : Nat} {v : Value} {d : DataW H} {ps : List MemPlace} (hval : Value.okWide Try.prog w r0 b0 81 v) (h : DataW.Trod enc Try.prog w base spare held 81 v d ps) : ∃ x, v = .agg #[.string x.name, .int .i64 x.arity, .int .i64 x.key] ∧ At cRel w x [.string x.name, .int .i64 x.arity, .int .i64 x.key] := by
  obtain ⟨x, cs, rfl, hx⟩ := row_struct Try.underlying81 (fun _ _ _ h => rd_Relation h) hval h
  obtain ⟨rfl, h2⟩ := cRel_open hx
  exact ⟨x, rfl, h2⟩
theorem rd_RelationS {fuel : Nat} {cs : List Value} {x : DataW H × List MemPlace} (h : DataW.trod enc Try.prog w base spare held fuel 22 cs = some x) : ∃ y, (cSlice cRel).ok w.heap.size w y cs := rd_slice Try.underlying22 Try.cells_Relation (by decide) (fun _ _ _ h => rd_Relation h) h
theorem row_RelationS {r0 : Reach} {b0 : Nat} {v : Value} {d : DataW H} {ps : List MemPlace} (hval : Value.okWide Try.prog w r0 b0 22 v) (h : DataW.Trod enc Try.prog w base spare held 22 v d ps) : ∃ a cap l, v = .slice a l.length cap ∧ At (cSlice cRel) w l [.slice a l.length cap] := row_slice Try.underlying22 Try.cells_Relation (by decide) (fun _ _ _ h => rd_Relation h) hval h
theorem Try.cells_RelationS : Try.prog.cellsOf 22 = 1 := by kernel_rfl
theorem Try.cells_Fact : Try.prog.cellsOf 83 = 2 := by kernel_rfl
theorem rd_Fact {fuel : Nat} {cs : List Value} {x : DataW H × List MemPlace} (h : DataW.trod enc Try.prog w base spare held fuel 83 cs = some x) : ∃ y, cFct.ok w.heap.size w y cs := by
  obtain ⟨xs, n, _, rfl, hl, hlen, hf⟩ := DataW.trod_struct Try.underlying83 h
  rw [Try.cells_Fact] at hl
  have h0 := hf 0 _ rfl
  rw [List.getElem?_eq_getElem (by rw [hlen]; decide)] at h0
  have h1 := hf 1 _ rfl
  rw [List.getElem?_eq_getElem (by rw [hlen]; decide)] at h1
  match cs, hl with
  | [v0, v1], _ =>
    simp only [Try.cells_int, Try.cells_ints, List.getElem_toArray, List.getElem_cons_zero, List.getElem_cons_succ, List.drop_zero, List.drop_succ_cons, List.take_succ_cons, List.take_zero] at h0 h1
    obtain ⟨y0, k0⟩ := rd_int Try.underlying3 h0
    obtain ⟨y1, k1⟩ := rd_intS h1
    exact ⟨⟨y0, y1⟩, [_], _, rfl, k0, k1⟩
theorem row_Fact {r0 : Reach} {b0 : Nat} {v : Value} {d : DataW H} {ps : List MemPlace} (hval : Value.okWide Try.prog w r0 b0 83 v) (h : DataW.Trod enc Try.prog w base spare held 83 v d ps) : ∃ x a1 cap1, v = .agg #[.int .i64 x.rel, .slice a1 x.vals.length cap1] ∧ At cFct w x [.int .i64 x.rel, .slice a1 x.vals.length cap1] := by
  obtain ⟨x, cs, rfl, hx⟩ := row_struct Try.underlying83 (fun _ _ _ h => rd_Fact h) hval h
  obtain ⟨a1, cap1, rfl, h2⟩ := cFct_open hx
  exact ⟨x, a1, cap1, rfl, h2⟩
theorem rd_FactS {fuel : Nat} {cs : List Value} {x : DataW H × List MemPlace} (h : DataW.trod enc Try.prog w base spare held fuel 23 cs = some x) : ∃ y, (cSlice cFct).ok w.heap.size w y cs := rd_slice Try.underlying23 Try.cells_Fact (by decide) (fun _ _ _ h => rd_Fact h) h
theorem row_FactS {r0 : Reach} {b0 : Nat} {v : Value} {d : DataW H} {ps : List MemPlace} (hval : Value.okWide Try.prog w r0 b0 23 v) (h : DataW.Trod enc Try.prog w base spare held 23 v d ps) : ∃ a cap l, v = .slice a l.length cap ∧ At (cSlice cFct) w l [.slice a l.length cap] := row_slice Try.underlying23 Try.cells_Fact (by decide) (fun _ _ _ h => rd_Fact h) hval h
theorem Try.cells_FactS : Try.prog.cellsOf 23 = 1 := by kernel_rfl
theorem Try.cells_Database : Try.prog.cellsOf 25 = 2 := by kernel_rfl
theorem rd_Database {fuel : Nat} {cs : List Value} {x : DataW H × List MemPlace} (h : DataW.trod enc Try.prog w base spare held fuel 25 cs = some x) : ∃ y, cDbs.ok w.heap.size w y cs := by
  obtain ⟨xs, n, _, rfl, hl, hlen, hf⟩ := DataW.trod_struct Try.underlying25 h
  rw [Try.cells_Database] at hl
  have h0 := hf 0 _ rfl
  rw [List.getElem?_eq_getElem (by rw [hlen]; decide)] at h0
  have h1 := hf 1 _ rfl
  rw [List.getElem?_eq_getElem (by rw [hlen]; decide)] at h1
  match cs, hl with
  | [v0, v1], _ =>
    simp only [Try.cells_RelationS, Try.cells_FactS, List.getElem_toArray, List.getElem_cons_zero, List.getElem_cons_succ, List.drop_zero, List.drop_succ_cons, List.take_succ_cons, List.take_zero] at h0 h1
    obtain ⟨y0, k0⟩ := rd_RelationS h0
    obtain ⟨y1, k1⟩ := rd_FactS h1
    exact ⟨⟨y0, y1⟩, [_], _, rfl, k0, k1⟩
theorem row_Database {r0 : Reach} {b0 : Nat} {v : Value} {d : DataW H} {ps : List MemPlace} (hval : Value.okWide Try.prog w r0 b0 25 v) (h : DataW.Trod enc Try.prog w base spare held 25 v d ps) : ∃ x a0 cap0 a1 cap1, v = .agg #[.slice a0 x.rels.length cap0, .slice a1 x.facts.length cap1] ∧ At cDbs w x [.slice a0 x.rels.length cap0, .slice a1 x.facts.length cap1] := by
  obtain ⟨x, cs, rfl, hx⟩ := row_struct Try.underlying25 (fun _ _ _ h => rd_Database h) hval h
  obtain ⟨a0, cap0, a1, cap1, rfl, h2⟩ := cDbs_open hx
  exact ⟨x, a0, cap0, a1, cap1, rfl, h2⟩
end
end Go.Proofs.Ytpcjhnbifgjleaa

/- The readings of the laws' own types, as a row reads them: constraints, edges, atoms, queries. -/
namespace Go.Proofs.Ytpcjhnbifgjleaa
open Go.RowKit Go.Deep
set_option linter.unusedVariables false
set_option maxRecDepth 100000

section
variable {H : Type} {enc : TypeId × Value → H} {w : World} {base : Nat} {spare : Nat → Bool} {held : Bool}
theorem Try.cells_Atom : Try.prog.cellsOf 85 = 2 := by kernel_rfl
theorem rd_Atom {fuel : Nat} {cs : List Value} {x : DataW H × List MemPlace} (h : DataW.trod enc Try.prog w base spare held fuel 85 cs = some x) : ∃ y, cAtm.ok w.heap.size w y cs := by
  obtain ⟨xs, n, _, rfl, hl, hlen, hf⟩ := DataW.trod_struct Try.underlying85 h
  rw [Try.cells_Atom] at hl
  have h0 := hf 0 _ rfl
  rw [List.getElem?_eq_getElem (by rw [hlen]; decide)] at h0
  have h1 := hf 1 _ rfl
  rw [List.getElem?_eq_getElem (by rw [hlen]; decide)] at h1
  match cs, hl with
  | [v0, v1], _ =>
    simp only [Try.cells_int, Try.cells_ints, List.getElem_toArray, List.getElem_cons_zero, List.getElem_cons_succ, List.drop_zero, List.drop_succ_cons, List.take_succ_cons, List.take_zero] at h0 h1
    obtain ⟨y0, k0⟩ := rd_int Try.underlying3 h0
    obtain ⟨y1, k1⟩ := rd_intS h1
    exact ⟨⟨y0, y1⟩, [_], _, rfl, k0, k1⟩
theorem row_Atom {r0 : Reach} {b0 : Nat} {v : Value} {d : DataW H} {ps : List MemPlace} (hval : Value.okWide Try.prog w r0 b0 85 v) (h : DataW.Trod enc Try.prog w base spare held 85 v d ps) : ∃ x a1 cap1, v = .agg #[.int .i64 x.rel, .slice a1 x.terms.length cap1] ∧ At cAtm w x [.int .i64 x.rel, .slice a1 x.terms.length cap1] := by
  obtain ⟨x, cs, rfl, hx⟩ := row_struct Try.underlying85 (fun _ _ _ h => rd_Atom h) hval h
  obtain ⟨a1, cap1, rfl, h2⟩ := cAtm_open hx
  exact ⟨x, a1, cap1, rfl, h2⟩
theorem rd_AtomS {fuel : Nat} {cs : List Value} {x : DataW H × List MemPlace} (h : DataW.trod enc Try.prog w base spare held fuel 26 cs = some x) : ∃ y, (cSlice cAtm).ok w.heap.size w y cs := rd_slice Try.underlying26 Try.cells_Atom (by decide) (fun _ _ _ h => rd_Atom h) h
theorem row_AtomS {r0 : Reach} {b0 : Nat} {v : Value} {d : DataW H} {ps : List MemPlace} (hval : Value.okWide Try.prog w r0 b0 26 v) (h : DataW.Trod enc Try.prog w base spare held 26 v d ps) : ∃ a cap l, v = .slice a l.length cap ∧ At (cSlice cAtm) w l [.slice a l.length cap] := row_slice Try.underlying26 Try.cells_Atom (by decide) (fun _ _ _ h => rd_Atom h) hval h
theorem Try.cells_AtomS : Try.prog.cellsOf 26 = 1 := by kernel_rfl
theorem Try.cells_Query : Try.prog.cellsOf 29 = 3 := by kernel_rfl
theorem rd_Query {fuel : Nat} {cs : List Value} {x : DataW H × List MemPlace} (h : DataW.trod enc Try.prog w base spare held fuel 29 cs = some x) : ∃ y, cQry.ok w.heap.size w y cs := by
  obtain ⟨xs, n, _, rfl, hl, hlen, hf⟩ := DataW.trod_struct Try.underlying29 h
  rw [Try.cells_Query] at hl
  have h0 := hf 0 _ rfl
  rw [List.getElem?_eq_getElem (by rw [hlen]; decide)] at h0
  have h1 := hf 1 _ rfl
  rw [List.getElem?_eq_getElem (by rw [hlen]; decide)] at h1
  have h2 := hf 2 _ rfl
  rw [List.getElem?_eq_getElem (by rw [hlen]; decide)] at h2
  match cs, hl with
  | [v0, v1, v2], _ =>
    simp only [Try.cells_int, Try.cells_AtomS, Try.cells_ints, List.getElem_toArray, List.getElem_cons_zero, List.getElem_cons_succ, List.drop_zero, List.drop_succ_cons, List.take_succ_cons, List.take_zero] at h0 h1 h2
    obtain ⟨y0, k0⟩ := rd_int Try.underlying3 h0
    obtain ⟨y1, k1⟩ := rd_AtomS h1
    obtain ⟨y2, k2⟩ := rd_intS h2
    exact ⟨⟨y0, y1, y2⟩, [_], _, rfl, k0, [_], _, rfl, k1, k2⟩
theorem row_Query {r0 : Reach} {b0 : Nat} {v : Value} {d : DataW H} {ps : List MemPlace} (hval : Value.okWide Try.prog w r0 b0 29 v) (h : DataW.Trod enc Try.prog w base spare held 29 v d ps) : ∃ x a1 cap1 a2 cap2, v = .agg #[.int .i64 x.vars, .slice a1 x.atoms.length cap1, .slice a2 x.free.length cap2] ∧ At cQry w x [.int .i64 x.vars, .slice a1 x.atoms.length cap1, .slice a2 x.free.length cap2] := by
  obtain ⟨x, cs, rfl, hx⟩ := row_struct Try.underlying29 (fun _ _ _ h => rd_Query h) hval h
  obtain ⟨a1, cap1, a2, cap2, rfl, h2⟩ := cQry_open hx
  exact ⟨x, a1, cap1, a2, cap2, rfl, h2⟩
end
end Go.Proofs.Ytpcjhnbifgjleaa

