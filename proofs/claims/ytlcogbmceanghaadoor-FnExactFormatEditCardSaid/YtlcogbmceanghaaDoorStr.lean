/- Texts in the layer: numbers as text. -/
import Derived.Test.YtlcogbmceanghaaDoorNumG
import Derived.Test.YtlcogbmceanghaaDoorTz
import Derived.Test.YtlcogbmceanghaaDoorStrP
open Go Go.Proofs Go.RowKit
namespace Go.Proofs.YtlcogbmceanghaaDoor.Ab
set_option linter.unusedSimpArgs false
set_option linter.unusedVariables false
set_option maxRecDepth 100000
/-- A number as text. -/
def itoaB (n : Int) : ByteArray := str (Lib.itoa n)
theorem itoaB_size {n : Int} (h : inR n) : (itoaB n).size ≤ 21 := by
  unfold itoaB
  rw [str_size]
  exact Lib.itoa_length_le n h.1 h.2
theorem specFormatInt_a {n : Int} (h : inR n) : AC Tryd.prog 59 [.d (.v (.int .i64 n))] (.d (.v (.string (itoaB n)))) :=
  AC.plain Tryd.func59 rfl (by decide) rfl (fun w K cs ov hK hr => by
    simp only [RdSs] at hr
    obtain ⟨v0, _, rfl, q0, rfl⟩ := hr
    obtain rfl := q0.int
    exact specFI n h.1 h.2 w)
theorem implFormatInt_a {n : Int} (h : inR n) : AC Tryd.prog 109 [.d (.v (.int .i64 n))] (.d (.v (.string (itoaB n)))) :=
  AC.plainG Tryd.func109 rfl (by decide) rfl (fun w K cs ov hg hK hr => by
    simp only [RdSs] at hr
    obtain ⟨v0, _, rfl, q0, rfl⟩ := hr
    obtain rfl := q0.int
    exact implFI n h.1 h.2 w hg.pow)
theorem jn_ints {l : List Int} (g : (eSlice eInt).good l) (hl : l.length ≤ 1048576) (sep : ByteArray) (hs : sep.size ≤ 1) : (jn sep (l.map itoaB)).size ≤ 23068672 := by
  have := jn_size (sep := sep) (m := 21) (l.map itoaB) (fun x hx => by
    obtain ⟨y, hy, rfl⟩ := List.mem_map.1 hx
    exact itoaB_size (g.2 y hy))
  rw [List.length_map] at this
  have h2 : l.length * (21 + sep.size) ≤ 1048576 * 22 := Nat.mul_le_mul hl (by omega)
  omega
theorem in_elem {l : List Int} (g : (eSlice eInt).good l) {i : Nat} (h : i < l.length) : inR l[i] := g.2 _ (List.getElem_mem h)
end Go.Proofs.YtlcogbmceanghaaDoor.Ab

