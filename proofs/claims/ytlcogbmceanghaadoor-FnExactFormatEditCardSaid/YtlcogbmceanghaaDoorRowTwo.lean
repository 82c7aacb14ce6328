/- RowTwo: RowT RowU. -/
import Derived.Test.YtlcogbmceanghaaDoorTyTwo
import Derived.Test.YtlcogbmceanghaaDoorRd
import Derived.Test.YtlcogbmceanghaaDoorTyTre
/- The readings of the laws' own types, as a row reads them. -/
namespace Go.Proofs.YtlcogbmceanghaaDoor
open Go.RowKit Go.Deep
set_option linter.unusedVariables false
set_option maxRecDepth 100000

theorem Tryd.cells_int : Tryd.prog.cellsOf 3 = 1 := by kernel_rfl
section
variable {H : Type} {enc : TypeId × Value → H} {w : World} {base : Nat} {spare : Nat → Bool} {held : Bool}
theorem rd_intS {fuel : Nat} {cs : List Value} {x : DataW H × List MemPlace} (h : DataW.trod enc Tryd.prog w base spare held fuel 24 cs = some x) : ∃ y, (cSlice cInt).ok w.heap.size w y cs := rd_slice Tryd.underlying24 Tryd.cells_int (by decide) (fun _ _ _ h => rd_int Tryd.underlying3 h) h
theorem row_intS {r0 : Reach} {b0 : Nat} {v : Value} {d : DataW H} {ps : List MemPlace} (hval : Value.okWide Tryd.prog w r0 b0 24 v) (h : DataW.Trod enc Tryd.prog w base spare held 24 v d ps) : ∃ a cap l, v = .slice a l.length cap ∧ At (cSlice cInt) w l [.slice a l.length cap] := row_slice Tryd.underlying24 Tryd.cells_int (by decide) (fun _ _ _ h => rd_int Tryd.underlying3 h) hval h
theorem Tryd.cells_ints : Tryd.prog.cellsOf 24 = 1 := by kernel_rfl
theorem Tryd.cells_str : Tryd.prog.cellsOf 9 = 1 := by kernel_rfl
theorem Tryd.cells_Relation : Tryd.prog.cellsOf 88 = 3 := by kernel_rfl
theorem rd_Relation {fuel : Nat} {cs : List Value} {x : DataW H × List MemPlace} (h : DataW.trod enc Tryd.prog w base spare held fuel 88 cs = some x) : ∃ y, cRel.ok w.heap.size w y cs := by
  obtain ⟨xs, n, _, rfl, hl, hlen, hf⟩ := DataW.trod_struct Tryd.underlying88 h
  rw [Tryd.cells_Relation] at hl
  have h0 := hf 0 _ rfl
  rw [List.getElem?_eq_getElem (by rw [hlen]; decide)] at h0
  have h1 := hf 1 _ rfl
  rw [List.getElem?_eq_getElem (by rw [hlen]; decide)] at h1
  have h2 := hf 2 _ rfl
  rw [List.getElem?_eq_getElem (by rw [hlen]; decide)] at h2
  match cs, hl with
  | [v0, v1, v2], _ =>
    simp only [Tryd.cells_str, Tryd.cells_int, List.getElem_toArray, List.getElem_cons_zero, List.getElem_cons_succ, List.drop_zero, List.drop_succ_cons, List.take_succ_cons, List.take_zero] at h0 h1 h2
    obtain ⟨y0, k0⟩ := rd_string Tryd.underlying9 h0
    obtain ⟨y1, k1⟩ := rd_int Tryd.underlying3 h1
    obtain ⟨y2, k2⟩ := rd_int Tryd.underlying3 h2
    exact ⟨⟨y0, y1, y2⟩, [_], _, rfl, k0, [_], _, rfl, k1, k2⟩
theorem row_Relation {r0 : Reach} {b0 : Nat} {v : Value} {d : DataW H} {ps : List MemPlace} (hval : Value.okWide Tryd.prog w r0 b0 88 v) (h : DataW.Trod enc Tryd.prog w base spare held 88 v d ps) : ∃ x, v = .agg #[.string x.name, .int .i64 x.arity, .int .i64 x.key] ∧ At cRel w x [.string x.name, .int .i64 x.arity, .int .i64 x.key] := by
  obtain ⟨x, cs, rfl, hx⟩ := row_struct Tryd.underlying88 (fun _ _ _ h => rd_Relation h) hval h
  obtain ⟨rfl, h2⟩ := cRel_open hx
  exact ⟨x, rfl, h2⟩
theorem rd_RelationS {fuel : Nat} {cs : List Value} {x : DataW H × List MemPlace} (h : DataW.trod enc Tryd.prog w base spare held fuel 22 cs = some x) : ∃ y, (cSlice cRel).ok w.heap.size w y cs := rd_slice Tryd.underlying22 Tryd.cells_Relation (by decide) (fun _ _ _ h => rd_Relation h) h
theorem row_RelationS {r0 : Reach} {b0 : Nat} {v : Value} {d : DataW H} {ps : List MemPlace} (hval : Value.okWide Tryd.prog w r0 b0 22 v) (h : DataW.Trod enc Tryd.prog w base spare held 22 v d ps) : ∃ a cap l, v = .slice a l.length cap ∧ At (cSlice cRel) w l [.slice a l.length cap] := row_slice Tryd.underlying22 Tryd.cells_Relation (by decide) (fun _ _ _ h => rd_Relation h) hval h
theorem Tryd.cells_RelationS : Tryd.prog.cellsOf 22 = 1 := by kernel_rfl
theorem Tryd.cells_Fact : Tryd.prog.cellsOf 50 = 2 := by kernel_rfl
theorem rd_Fact {fuel : Nat} {cs : List Value} {x : DataW H × List MemPlace} (h : DataW.trod enc Tryd.prog w base spare held fuel 50 cs = some x) : ∃ y, cFct.ok w.heap.size w y cs := by
  obtain ⟨xs, n, _, rfl, hl, hlen, hf⟩ := DataW.trod_struct Tryd.underlying50 h
  rw [Tryd.cells_Fact] at hl
  have h0 := hf 0 _ rfl
  rw [List.getElem?_eq_getElem (by rw [hlen]; decide)] at h0
  have h1 := hf 1 _ rfl
  rw [List.getElem?_eq_getElem (by rw [hlen]; decide)] at h1
  match cs, hl with
  | [v0, v1], _ =>
    simp only [Tryd.cells_int, Tryd.cells_ints, List.getElem_toArray, List.getElem_cons_zero, List.getElem_cons_succ, List.drop_zero, List.drop_succ_cons, List.take_succ_cons, List.take_zero] at h0 h1
    obtain ⟨y0, k0⟩ := rd_int Tryd.underlying3 h0
    obtain ⟨y1, k1⟩ := rd_intS h1
    exact ⟨⟨y0, y1⟩, [_], _, rfl, k0, k1⟩
theorem row_Fact {r0 : Reach} {b0 : Nat} {v : Value} {d : DataW H} {ps : List MemPlace} (hval : Value.okWide Tryd.prog w r0 b0 50 v) (h : DataW.Trod enc Tryd.prog w base spare held 50 v d ps) : ∃ x a1 cap1, v = .agg #[.int .i64 x.rel, .slice a1 x.vals.length cap1] ∧ At cFct w x [.int .i64 x.rel, .slice a1 x.vals.length cap1] := by
  obtain ⟨x, cs, rfl, hx⟩ := row_struct Tryd.underlying50 (fun _ _ _ h => rd_Fact h) hval h
  obtain ⟨a1, cap1, rfl, h2⟩ := cFct_open hx
  exact ⟨x, a1, cap1, rfl, h2⟩
theorem rd_FactS {fuel : Nat} {cs : List Value} {x : DataW H × List MemPlace} (h : DataW.trod enc Tryd.prog w base spare held fuel 46 cs = some x) : ∃ y, (cSlice cFct).ok w.heap.size w y cs := rd_slice Tryd.underlying46 Tryd.cells_Fact (by decide) (fun _ _ _ h => rd_Fact h) h
theorem row_FactS {r0 : Reach} {b0 : Nat} {v : Value} {d : DataW H} {ps : List MemPlace} (hval : Value.okWide Tryd.prog w r0 b0 46 v) (h : DataW.Trod enc Tryd.prog w base spare held 46 v d ps) : ∃ a cap l, v = .slice a l.length cap ∧ At (cSlice cFct) w l [.slice a l.length cap] := row_slice Tryd.underlying46 Tryd.cells_Fact (by decide) (fun _ _ _ h => rd_Fact h) hval h
theorem Tryd.cells_FactS : Tryd.prog.cellsOf 46 = 1 := by kernel_rfl
theorem Tryd.cells_Database : Tryd.prog.cellsOf 48 = 2 := by kernel_rfl
theorem rd_Database {fuel : Nat} {cs : List Value} {x : DataW H × List MemPlace} (h : DataW.trod enc Tryd.prog w base spare held fuel 48 cs = some x) : ∃ y, cDbs.ok w.heap.size w y cs := by
  obtain ⟨xs, n, _, rfl, hl, hlen, hf⟩ := DataW.trod_struct Tryd.underlying48 h
  rw [Tryd.cells_Database] at hl
  have h0 := hf 0 _ rfl
  rw [List.getElem?_eq_getElem (by rw [hlen]; decide)] at h0
  have h1 := hf 1 _ rfl
  rw [List.getElem?_eq_getElem (by rw [hlen]; decide)] at h1
  match cs, hl with
  | [v0, v1], _ =>
    simp only [Tryd.cells_RelationS, Tryd.cells_FactS, List.getElem_toArray, List.getElem_cons_zero, List.getElem_cons_succ, List.drop_zero, List.drop_succ_cons, List.take_succ_cons, List.take_zero] at h0 h1
    obtain ⟨y0, k0⟩ := rd_RelationS h0
    obtain ⟨y1, k1⟩ := rd_FactS h1
    exact ⟨⟨y0, y1⟩, [_], _, rfl, k0, k1⟩
theorem row_Database {r0 : Reach} {b0 : Nat} {v : Value} {d : DataW H} {ps : List MemPlace} (hval : Value.okWide Tryd.prog w r0 b0 48 v) (h : DataW.Trod enc Tryd.prog w base spare held 48 v d ps) : ∃ x a0 cap0 a1 cap1, v = .agg #[.slice a0 x.rels.length cap0, .slice a1 x.facts.length cap1] ∧ At cDbs w x [.slice a0 x.rels.length cap0, .slice a1 x.facts.length cap1] := by
  obtain ⟨x, cs, rfl, hx⟩ := row_struct Tryd.underlying48 (fun _ _ _ h => rd_Database h) hval h
  obtain ⟨a0, cap0, a1, cap1, rfl, h2⟩ := cDbs_open hx
  exact ⟨x, a0, cap0, a1, cap1, rfl, h2⟩
end
end Go.Proofs.YtlcogbmceanghaaDoor

/- The readings of the laws' own types, as a row reads them: constraints, edges, atoms, queries. -/
namespace Go.Proofs.YtlcogbmceanghaaDoor
open Go.RowKit Go.Deep
set_option linter.unusedVariables false
set_option maxRecDepth 100000

section
variable {H : Type} {enc : TypeId × Value → H} {w : World} {base : Nat} {spare : Nat → Bool} {held : Bool}
theorem Tryd.cells_Atom : Tryd.prog.cellsOf 134 = 2 := by kernel_rfl
theorem rd_Atom {fuel : Nat} {cs : List Value} {x : DataW H × List MemPlace} (h : DataW.trod enc Tryd.prog w base spare held fuel 134 cs = some x) : ∃ y, cAtm.ok w.heap.size w y cs := by
  obtain ⟨xs, n, _, rfl, hl, hlen, hf⟩ := DataW.trod_struct Tryd.underlying134 h
  rw [Tryd.cells_Atom] at hl
  have h0 := hf 0 _ rfl
  rw [List.getElem?_eq_getElem (by rw [hlen]; decide)] at h0
  have h1 := hf 1 _ rfl
  rw [List.getElem?_eq_getElem (by rw [hlen]; decide)] at h1
  match cs, hl with
  | [v0, v1], _ =>
    simp only [Tryd.cells_int, Tryd.cells_ints, List.getElem_toArray, List.getElem_cons_zero, List.getElem_cons_succ, List.drop_zero, List.drop_succ_cons, List.take_succ_cons, List.take_zero] at h0 h1
    obtain ⟨y0, k0⟩ := rd_int Tryd.underlying3 h0
    obtain ⟨y1, k1⟩ := rd_intS h1
    exact ⟨⟨y0, y1⟩, [_], _, rfl, k0, k1⟩
theorem row_Atom {r0 : Reach} {b0 : Nat} {v : Value} {d : DataW H} {ps : List MemPlace} (hval : Value.okWide Tryd.prog w r0 b0 134 v) (h : DataW.Trod enc Tryd.prog w base spare held 134 v d ps) : ∃ x a1 cap1, v = .agg #[.int .i64 x.rel, .slice a1 x.terms.length cap1] ∧ At cAtm w x [.int .i64 x.rel, .slice a1 x.terms.length cap1] := by
  obtain ⟨x, cs, rfl, hx⟩ := row_struct Tryd.underlying134 (fun _ _ _ h => rd_Atom h) hval h
  obtain ⟨a1, cap1, rfl, h2⟩ := cAtm_open hx
  exact ⟨x, a1, cap1, rfl, h2⟩
theorem rd_AtomS {fuel : Nat} {cs : List Value} {x : DataW H × List MemPlace} (h : DataW.trod enc Tryd.prog w base spare held fuel 23 cs = some x) : ∃ y, (cSlice cAtm).ok w.heap.size w y cs := rd_slice Tryd.underlying23 Tryd.cells_Atom (by decide) (fun _ _ _ h => rd_Atom h) h
theorem row_AtomS {r0 : Reach} {b0 : Nat} {v : Value} {d : DataW H} {ps : List MemPlace} (hval : Value.okWide Tryd.prog w r0 b0 23 v) (h : DataW.Trod enc Tryd.prog w base spare held 23 v d ps) : ∃ a cap l, v = .slice a l.length cap ∧ At (cSlice cAtm) w l [.slice a l.length cap] := row_slice Tryd.underlying23 Tryd.cells_Atom (by decide) (fun _ _ _ h => rd_Atom h) hval h
theorem Tryd.cells_AtomS : Tryd.prog.cellsOf 23 = 1 := by kernel_rfl
theorem Tryd.cells_Query : Tryd.prog.cellsOf 26 = 3 := by kernel_rfl
theorem rd_Query {fuel : Nat} {cs : List Value} {x : DataW H × List MemPlace} (h : DataW.trod enc Tryd.prog w base spare held fuel 26 cs = some x) : ∃ y, cQry.ok w.heap.size w y cs := by
  obtain ⟨xs, n, _, rfl, hl, hlen, hf⟩ := DataW.trod_struct Tryd.underlying26 h
  rw [Tryd.cells_Query] at hl
  have h0 := hf 0 _ rfl
  rw [List.getElem?_eq_getElem (by rw [hlen]; decide)] at h0
  have h1 := hf 1 _ rfl
  rw [List.getElem?_eq_getElem (by rw [hlen]; decide)] at h1
  have h2 := hf 2 _ rfl
  rw [List.getElem?_eq_getElem (by rw [hlen]; decide)] at h2
  match cs, hl with
  | [v0, v1, v2], _ =>
    simp only [Tryd.cells_int, Tryd.cells_AtomS, Tryd.cells_ints, List.getElem_toArray, List.getElem_cons_zero, List.getElem_cons_succ, List.drop_zero, List.drop_succ_cons, List.take_succ_cons, List.take_zero] at h0 h1 h2
    obtain ⟨y0, k0⟩ := rd_int Tryd.underlying3 h0
    obtain ⟨y1, k1⟩ := rd_AtomS h1
    obtain ⟨y2, k2⟩ := rd_intS h2
    exact ⟨⟨y0, y1, y2⟩, [_], _, rfl, k0, [_], _, rfl, k1, k2⟩
theorem row_Query {r0 : Reach} {b0 : Nat} {v : Value} {d : DataW H} {ps : List MemPlace} (hval : Value.okWide Tryd.prog w r0 b0 26 v) (h : DataW.Trod enc Tryd.prog w base spare held 26 v d ps) : ∃ x a1 cap1 a2 cap2, v = .agg #[.int .i64 x.vars, .slice a1 x.atoms.length cap1, .slice a2 x.free.length cap2] ∧ At cQry w x [.int .i64 x.vars, .slice a1 x.atoms.length cap1, .slice a2 x.free.length cap2] := by
  obtain ⟨x, cs, rfl, hx⟩ := row_struct Tryd.underlying26 (fun _ _ _ h => rd_Query h) hval h
  obtain ⟨a1, cap1, a2, cap2, rfl, h2⟩ := cQry_open hx
  exact ⟨x, a1, cap1, a2, cap2, rfl, h2⟩
end
end Go.Proofs.YtlcogbmceanghaaDoor

