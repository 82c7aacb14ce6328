/- The readings of the laws' own types, as a row reads them: structs in structs. -/
import Derived.Test.YtpcjhnbifgjleaaTyVew
import Derived.Test.YtpcjhnbifgjleaaRowTwo
import Derived.Test.YtpcjhnbifgjleaaRowV
namespace Go.Proofs.Ytpcjhnbifgjleaa
open Go.RowKit Go.Deep
set_option linter.unusedSimpArgs false
set_option linter.unusedVariables false
set_option maxRecDepth 100000

section
variable {H : Type} {enc : TypeId × Value → H} {w : World} {base : Nat} {spare : Nat → Bool} {held : Bool}
theorem Try.cells_View : Try.prog.cellsOf 32 = 7 := by kernel_rfl
theorem rd_View {fuel : Nat} {cs : List Value} {x : DataW H × List MemPlace} (h : DataW.trod enc Try.prog w base spare held fuel 32 cs = some x) : ∃ y, cVew.ok w.heap.size w y cs := by
  obtain ⟨xs, n, _, rfl, hl, hlen, hf⟩ := DataW.trod_struct Try.underlying32 h
  rw [Try.cells_View] at hl
  have h0 := hf 0 _ rfl
  rw [List.getElem?_eq_getElem (by rw [hlen]; decide)] at h0
  have h1 := hf 1 _ rfl
  rw [List.getElem?_eq_getElem (by rw [hlen]; decide)] at h1
  have h2 := hf 2 _ rfl
  rw [List.getElem?_eq_getElem (by rw [hlen]; decide)] at h2
  have h3 := hf 3 _ rfl
  rw [List.getElem?_eq_getElem (by rw [hlen]; decide)] at h3
  match cs, hl with
  | [v0, v1, v2, v3, v4, v5, v6], _ =>
    simp only [Try.cells_int, Try.cells_ints, Try.cells_intSS, Try.cells_Database, Try.cells_Query, List.getElem_toArray, List.getElem_cons_zero, List.getElem_cons_succ, List.drop_zero, List.drop_succ_cons, List.take_succ_cons, List.take_zero] at h0 h1 h2 h3
    obtain ⟨y0, k0⟩ := rd_Database h0
    obtain ⟨y1, k1⟩ := rd_Query h1
    obtain ⟨y2, k2⟩ := rd_intSS h2
    obtain ⟨y3, k3⟩ := rd_intSS h3
    exact ⟨⟨y0, y1, y2, y3⟩, [_, _], _, rfl, k0, [_, _, _], _, rfl, k1, [_], _, rfl, k2, k3⟩
theorem row_View {r0 : Reach} {b0 : Nat} {v : Value} {d : DataW H} {ps : List MemPlace} (hval : Value.okWide Try.prog w r0 b0 32 v) (h : DataW.Trod enc Try.prog w base spare held 32 v d ps) : ∃ x a0 cap0 a1 cap1 a3 cap3 a4 cap4 a5 cap5 a6 cap6, v = .agg #[.slice a0 x.db.rels.length cap0, .slice a1 x.db.facts.length cap1, .int .i64 x.qry.vars, .slice a3 x.qry.atoms.length cap3, .slice a4 x.qry.free.length cap4, .slice a5 x.sure.length cap5, .slice a6 x.open_.length cap6] ∧ At cVew w x [.slice a0 x.db.rels.length cap0, .slice a1 x.db.facts.length cap1, .int .i64 x.qry.vars, .slice a3 x.qry.atoms.length cap3, .slice a4 x.qry.free.length cap4, .slice a5 x.sure.length cap5, .slice a6 x.open_.length cap6] := by
  obtain ⟨x, cs, rfl, hx⟩ := row_struct Try.underlying32 (fun _ _ _ h => rd_View h) hval h
  obtain ⟨a0, cap0, a1, cap1, a3, cap3, a4, cap4, a5, cap5, a6, cap6, rfl, h2⟩ := cVew_open hx
  exact ⟨x, a0, cap0, a1, cap1, a3, cap3, a4, cap4, a5, cap5, a6, cap6, rfl, h2⟩
end
end Go.Proofs.Ytpcjhnbifgjleaa

