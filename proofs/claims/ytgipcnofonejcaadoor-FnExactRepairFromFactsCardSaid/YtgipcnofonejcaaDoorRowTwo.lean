/- RowTwo: RowT RowU. -/
import Derived.Test.YtgipcnofonejcaaDoorTyTwo
import Derived.Test.YtgipcnofonejcaaDoorRd
import Derived.Test.YtgipcnofonejcaaDoorTyTre
/- The readings of the laws' own types, as a row reads them. -/
namespace Go.Proofs.YtgipcnofonejcaaDoor
open Go.RowKit Go.Deep
set_option linter.unusedVariables false
set_option maxRecDepth 100000

theorem Tryd.cells_int : Tryd.prog.cellsOf 3 = 1 := by kernel_rfl
section
variable {H : Type} {enc : TypeId × Value → H} {w : World} {base : Nat} {spare : Nat → Bool} {held : Bool}
theorem rd_intS {fuel : Nat} {cs : List Value} {x : DataW H × List MemPlace} (h : DataW.trod enc Tryd.prog w base spare held fuel 46 cs = some x) : ∃ y, (cSlice cInt).ok w.heap.size w y cs := rd_slice Tryd.underlying46 Tryd.cells_int (by decide) (fun _ _ _ h => rd_int Tryd.underlying3 h) h
theorem row_intS {r0 : Reach} {b0 : Nat} {v : Value} {d : DataW H} {ps : List MemPlace} (hval : Value.okWide Tryd.prog w r0 b0 46 v) (h : DataW.Trod enc Tryd.prog w base spare held 46 v d ps) : ∃ a cap l, v = .slice a l.length cap ∧ At (cSlice cInt) w l [.slice a l.length cap] := row_slice Tryd.underlying46 Tryd.cells_int (by decide) (fun _ _ _ h => rd_int Tryd.underlying3 h) hval h
theorem Tryd.cells_ints : Tryd.prog.cellsOf 46 = 1 := by kernel_rfl
theorem Tryd.cells_str : Tryd.prog.cellsOf 9 = 1 := by kernel_rfl
theorem Tryd.cells_Relation : Tryd.prog.cellsOf 97 = 3 := by kernel_rfl
theorem rd_Relation {fuel : Nat} {cs : List Value} {x : DataW H × List MemPlace} (h : DataW.trod enc Tryd.prog w base spare held fuel 97 cs = some x) : ∃ y, cRel.ok w.heap.size w y cs := by
  obtain ⟨xs, n, _, rfl, hl, hlen, hf⟩ := DataW.trod_struct Tryd.underlying97 h
  rw [Tryd.cells_Relation] at hl
  have h0 := hf 0 _ rfl
  rw [List.getElem?_eq_getElem (by rw [hlen]; decide)] at h0
  have h1 := hf 1 _ rfl
  rw [List.getElem?_eq_getElem (by rw [hlen]; decide)] at h1
  have h2 := hf 2 _ rfl
  rw [List.getElem?_eq_getElem (by rw [hlen]; decide)] at h2
  match cs, hl with
  | [v0, v1, v2], _ =>
    simp only [Tryd.cells_str, Tryd.cells_int, List.getElem_toArray, List.getElem_cons_zero, List.getElem_cons_succ, List.drop_zero, List.drop_succ_cons, List.take_succ_cons, List.take_zero] at h0 h1 h2
    obtain ⟨y0, k0⟩ := rd_string Tryd.underlying9 h0
    obtain ⟨y1, k1⟩ := rd_int Tryd.underlying3 h1
    obtain ⟨y2, k2⟩ := rd_int Tryd.underlying3 h2
    exact ⟨⟨y0, y1, y2⟩, [_], _, rfl, k0, [_], _, rfl, k1, k2⟩
theorem row_Relation {r0 : Reach} {b0 : Nat} {v : Value} {d : DataW H} {ps : List MemPlace} (hval : Value.okWide Tryd.prog w r0 b0 97 v) (h : DataW.Trod enc Tryd.prog w base spare held 97 v d ps) : ∃ x, v = .agg #[.string x.name, .int .i64 x.arity, .int .i64 x.key] ∧ At cRel w x [.string x.name, .int .i64 x.arity, .int .i64 x.key] := by
  obtain ⟨x, cs, rfl, hx⟩ := row_struct Tryd.underlying97 (fun _ _ _ h => rd_Relation h) hval h
  obtain ⟨rfl, h2⟩ := cRel_open hx
  exact ⟨x, rfl, h2⟩
theorem rd_RelationS {fuel : Nat} {cs : List Value} {x : DataW H × List MemPlace} (h : DataW.trod enc Tryd.prog w base spare held fuel 22 cs = some x) : ∃ y, (cSlice cRel).ok w.heap.size w y cs := rd_slice Tryd.underlying22 Tryd.cells_Relation (by decide) (fun _ _ _ h => rd_Relation h) h
theorem row_RelationS {r0 : Reach} {b0 : Nat} {v : Value} {d : DataW H} {ps : List MemPlace} (hval : Value.okWide Tryd.prog w r0 b0 22 v) (h : DataW.Trod enc Tryd.prog w base spare held 22 v d ps) : ∃ a cap l, v = .slice a l.length cap ∧ At (cSlice cRel) w l [.slice a l.length cap] := row_slice Tryd.underlying22 Tryd.cells_Relation (by decide) (fun _ _ _ h => rd_Relation h) hval h
theorem Tryd.cells_RelationS : Tryd.prog.cellsOf 22 = 1 := by kernel_rfl
theorem Tryd.cells_Fact : Tryd.prog.cellsOf 100 = 2 := by kernel_rfl
theorem rd_Fact {fuel : Nat} {cs : List Value} {x : DataW H × List MemPlace} (h : DataW.trod enc Tryd.prog w base spare held fuel 100 cs = some x) : ∃ y, cFct.ok w.heap.size w y cs := by
  obtain ⟨xs, n, _, rfl, hl, hlen, hf⟩ := DataW.trod_struct Tryd.underlying100 h
  rw [Tryd.cells_Fact] at hl
  have h0 := hf 0 _ rfl
  rw [List.getElem?_eq_getElem (by rw [hlen]; decide)] at h0
  have h1 := hf 1 _ rfl
  rw [List.getElem?_eq_getElem (by rw [hlen]; decide)] at h1
  match cs, hl with
  | [v0, v1], _ =>
    simp only [Tryd.cells_int, Tryd.cells_ints, List.getElem_toArray, List.getElem_cons_zero, List.getElem_cons_succ, List.drop_zero, List.drop_succ_cons, List.take_succ_cons, List.take_zero] at h0 h1
    obtain ⟨y0, k0⟩ := rd_int Tryd.underlying3 h0
    obtain ⟨y1, k1⟩ := rd_intS h1
    exact ⟨⟨y0, y1⟩, [_], _, rfl, k0, k1⟩
theorem row_Fact {r0 : Reach} {b0 : Nat} {v : Value} {d : DataW H} {ps : List MemPlace} (hval : Value.okWide Tryd.prog w r0 b0 100 v) (h : DataW.Trod enc Tryd.prog w base spare held 100 v d ps) : ∃ x a1 cap1, v = .agg #[.int .i64 x.rel, .slice a1 x.vals.length cap1] ∧ At cFct w x [.int .i64 x.rel, .slice a1 x.vals.length cap1] := by
  obtain ⟨x, cs, rfl, hx⟩ := row_struct Tryd.underlying100 (fun _ _ _ h => rd_Fact h) hval h
  obtain ⟨a1, cap1, rfl, h2⟩ := cFct_open hx
  exact ⟨x, a1, cap1, rfl, h2⟩
theorem rd_FactS {fuel : Nat} {cs : List Value} {x : DataW H × List MemPlace} (h : DataW.trod enc Tryd.prog w base spare held fuel 23 cs = some x) : ∃ y, (cSlice cFct).ok w.heap.size w y cs := rd_slice Tryd.underlying23 Tryd.cells_Fact (by decide) (fun _ _ _ h => rd_Fact h) h
theorem row_FactS {r0 : Reach} {b0 : Nat} {v : Value} {d : DataW H} {ps : List MemPlace} (hval : Value.okWide Tryd.prog w r0 b0 23 v) (h : DataW.Trod enc Tryd.prog w base spare held 23 v d ps) : ∃ a cap l, v = .slice a l.length cap ∧ At (cSlice cFct) w l [.slice a l.length cap] := row_slice Tryd.underlying23 Tryd.cells_Fact (by decide) (fun _ _ _ h => rd_Fact h) hval h
theorem Tryd.cells_FactS : Tryd.prog.cellsOf 23 = 1 := by kernel_rfl
theorem Tryd.cells_Database : Tryd.prog.cellsOf 25 = 2 := by kernel_rfl
theorem rd_Database {fuel : Nat} {cs : List Value} {x : DataW H × List MemPlace} (h : DataW.trod enc Tryd.prog w base spare held fuel 25 cs = some x) : ∃ y, cDbs.ok w.heap.size w y cs := by
  obtain ⟨xs, n, _, rfl, hl, hlen, hf⟩ := DataW.trod_struct Tryd.underlying25 h
  rw [Tryd.cells_Database] at hl
  have h0 := hf 0 _ rfl
  rw [List.getElem?_eq_getElem (by rw [hlen]; decide)] at h0
  have h1 := hf 1 _ rfl
  rw [List.getElem?_eq_getElem (by rw [hlen]; decide)] at h1
  match cs, hl with
  | [v0, v1], _ =>
    simp only [Tryd.cells_RelationS, Tryd.cells_FactS, List.getElem_toArray, List.getElem_cons_zero, List.getElem_cons_succ, List.drop_zero, List.drop_succ_cons, List.take_succ_cons, List.take_zero] at h0 h1
    obtain ⟨y0, k0⟩ := rd_RelationS h0
    obtain ⟨y1, k1⟩ := rd_FactS h1
    exact ⟨⟨y0, y1⟩, [_], _, rfl, k0, k1⟩
theorem row_Database {r0 : Reach} {b0 : Nat} {v : Value} {d : DataW H} {ps : List MemPlace} (hval : Value.okWide Tryd.prog w r0 b0 25 v) (h : DataW.Trod enc Tryd.prog w base spare held 25 v d ps) : ∃ x a0 cap0 a1 cap1, v = .agg #[.slice a0 x.rels.length cap0, .slice a1 x.facts.length cap1] ∧ At cDbs w x [.slice a0 x.rels.length cap0, .slice a1 x.facts.length cap1] := by
  obtain ⟨x, cs, rfl, hx⟩ := row_struct Tryd.underlying25 (fun _ _ _ h => rd_Database h) hval h
  obtain ⟨a0, cap0, a1, cap1, rfl, h2⟩ := cDbs_open hx
  exact ⟨x, a0, cap0, a1, cap1, rfl, h2⟩
end
end Go.Proofs.YtgipcnofonejcaaDoor

/- The readings of the laws' own types, as a row reads them: constraints, edges, atoms, queries. -/
namespace Go.Proofs.YtgipcnofonejcaaDoor
open Go.RowKit Go.Deep
set_option linter.unusedVariables false
set_option maxRecDepth 100000

section
variable {H : Type} {enc : TypeId × Value → H} {w : World} {base : Nat} {spare : Nat → Bool} {held : Bool}
theorem Tryd.cells_DenialConstraint : Tryd.prog.cellsOf 71 = 7 := by kernel_rfl
theorem rd_DenialConstraint {fuel : Nat} {cs : List Value} {x : DataW H × List MemPlace} (h : DataW.trod enc Tryd.prog w base spare held fuel 71 cs = some x) : ∃ y, cDcn.ok w.heap.size w y cs := by
  obtain ⟨xs, n, _, rfl, hl, hlen, hf⟩ := DataW.trod_struct Tryd.underlying71 h
  rw [Tryd.cells_DenialConstraint] at hl
  have h0 := hf 0 _ rfl
  rw [List.getElem?_eq_getElem (by rw [hlen]; decide)] at h0
  have h1 := hf 1 _ rfl
  rw [List.getElem?_eq_getElem (by rw [hlen]; decide)] at h1
  have h2 := hf 2 _ rfl
  rw [List.getElem?_eq_getElem (by rw [hlen]; decide)] at h2
  have h3 := hf 3 _ rfl
  rw [List.getElem?_eq_getElem (by rw [hlen]; decide)] at h3
  have h4 := hf 4 _ rfl
  rw [List.getElem?_eq_getElem (by rw [hlen]; decide)] at h4
  have h5 := hf 5 _ rfl
  rw [List.getElem?_eq_getElem (by rw [hlen]; decide)] at h5
  have h6 := hf 6 _ rfl
  rw [List.getElem?_eq_getElem (by rw [hlen]; decide)] at h6
  match cs, hl with
  | [v0, v1, v2, v3, v4, v5, v6], _ =>
    simp only [Tryd.cells_int, List.getElem_toArray, List.getElem_cons_zero, List.getElem_cons_succ, List.drop_zero, List.drop_succ_cons, List.take_succ_cons, List.take_zero] at h0 h1 h2 h3 h4 h5 h6
    obtain ⟨y0, k0⟩ := rd_int Tryd.underlying3 h0
    obtain ⟨y1, k1⟩ := rd_int Tryd.underlying3 h1
    obtain ⟨y2, k2⟩ := rd_int Tryd.underlying3 h2
    obtain ⟨y3, k3⟩ := rd_int Tryd.underlying3 h3
    obtain ⟨y4, k4⟩ := rd_int Tryd.underlying3 h4
    obtain ⟨y5, k5⟩ := rd_int Tryd.underlying3 h5
    obtain ⟨y6, k6⟩ := rd_int Tryd.underlying3 h6
    exact ⟨⟨y0, y1, y2, y3, y4, y5, y6⟩, [_], _, rfl, k0, [_], _, rfl, k1, [_], _, rfl, k2, [_], _, rfl, k3, [_], _, rfl, k4, [_], _, rfl, k5, k6⟩
theorem row_DenialConstraint {r0 : Reach} {b0 : Nat} {v : Value} {d : DataW H} {ps : List MemPlace} (hval : Value.okWide Tryd.prog w r0 b0 71 v) (h : DataW.Trod enc Tryd.prog w base spare held 71 v d ps) : ∃ x, v = .agg #[.int .i64 x.r1, .int .i64 x.r2, .int .i64 x.j1, .int .i64 x.j2, .int .i64 x.c1, .int .i64 x.c2, .int .i64 x.cmp] ∧ At cDcn w x [.int .i64 x.r1, .int .i64 x.r2, .int .i64 x.j1, .int .i64 x.j2, .int .i64 x.c1, .int .i64 x.c2, .int .i64 x.cmp] := by
  obtain ⟨x, cs, rfl, hx⟩ := row_struct Tryd.underlying71 (fun _ _ _ h => rd_DenialConstraint h) hval h
  obtain ⟨rfl, h2⟩ := cDcn_open hx
  exact ⟨x, rfl, h2⟩
theorem Tryd.cells_ConflictEdge : Tryd.prog.cellsOf 91 = 2 := by kernel_rfl
theorem rd_ConflictEdge {fuel : Nat} {cs : List Value} {x : DataW H × List MemPlace} (h : DataW.trod enc Tryd.prog w base spare held fuel 91 cs = some x) : ∃ y, cEdg.ok w.heap.size w y cs := by
  obtain ⟨xs, n, _, rfl, hl, hlen, hf⟩ := DataW.trod_struct Tryd.underlying91 h
  rw [Tryd.cells_ConflictEdge] at hl
  have h0 := hf 0 _ rfl
  rw [List.getElem?_eq_getElem (by rw [hlen]; decide)] at h0
  have h1 := hf 1 _ rfl
  rw [List.getElem?_eq_getElem (by rw [hlen]; decide)] at h1
  match cs, hl with
  | [v0, v1], _ =>
    simp only [Tryd.cells_int, List.getElem_toArray, List.getElem_cons_zero, List.getElem_cons_succ, List.drop_zero, List.drop_succ_cons, List.take_succ_cons, List.take_zero] at h0 h1
    obtain ⟨y0, k0⟩ := rd_int Tryd.underlying3 h0
    obtain ⟨y1, k1⟩ := rd_int Tryd.underlying3 h1
    exact ⟨⟨y0, y1⟩, [_], _, rfl, k0, k1⟩
theorem row_ConflictEdge {r0 : Reach} {b0 : Nat} {v : Value} {d : DataW H} {ps : List MemPlace} (hval : Value.okWide Tryd.prog w r0 b0 91 v) (h : DataW.Trod enc Tryd.prog w base spare held 91 v d ps) : ∃ x, v = .agg #[.int .i64 x.a, .int .i64 x.b] ∧ At cEdg w x [.int .i64 x.a, .int .i64 x.b] := by
  obtain ⟨x, cs, rfl, hx⟩ := row_struct Tryd.underlying91 (fun _ _ _ h => rd_ConflictEdge h) hval h
  obtain ⟨rfl, h2⟩ := cEdg_open hx
  exact ⟨x, rfl, h2⟩
theorem rd_ConflictEdgeS {fuel : Nat} {cs : List Value} {x : DataW H × List MemPlace} (h : DataW.trod enc Tryd.prog w base spare held fuel 53 cs = some x) : ∃ y, (cSlice cEdg).ok w.heap.size w y cs := rd_slice Tryd.underlying53 Tryd.cells_ConflictEdge (by decide) (fun _ _ _ h => rd_ConflictEdge h) h
theorem row_ConflictEdgeS {r0 : Reach} {b0 : Nat} {v : Value} {d : DataW H} {ps : List MemPlace} (hval : Value.okWide Tryd.prog w r0 b0 53 v) (h : DataW.Trod enc Tryd.prog w base spare held 53 v d ps) : ∃ a cap l, v = .slice a l.length cap ∧ At (cSlice cEdg) w l [.slice a l.length cap] := row_slice Tryd.underlying53 Tryd.cells_ConflictEdge (by decide) (fun _ _ _ h => rd_ConflictEdge h) hval h
theorem Tryd.cells_ConflictEdgeS : Tryd.prog.cellsOf 53 = 1 := by kernel_rfl
end
end Go.Proofs.YtgipcnofonejcaaDoor
