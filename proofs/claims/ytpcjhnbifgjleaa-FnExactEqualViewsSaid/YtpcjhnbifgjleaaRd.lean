/- What a row's reading says, in the words of the readings of data. -/
import Derived.Test.YtpcjhnbifgjleaaCodOne
import Derived.Test.YtpcjhnbifgjleaaRows
import Derived.WalkKit
import Derived.ChangeShapes
import Derived.ChangeArms
import Derived.ChangeMaps5
import Derived.Deep.Slices
import Derived.Deep.Strs
namespace Go.Proofs.Ytpcjhnbifgjleaa
open Go.RowKit Go.Deep
set_option linter.unusedVariables false
set_option maxRecDepth 100000

section
variable {H : Type} {enc : TypeId × Value → H} {P : Program} {w : World} {base : Nat} {spare : Nat → Bool} {held : Bool}
theorem rd_int {t : TypeId} (ht : P.underlying t = some (.int .i64)) {fuel : Nat} {cs : List Value} {x : DataW H × List MemPlace} (h : DataW.trod enc P w base spare held fuel t cs = some x) : ∃ y, cInt.ok w.heap.size w y cs := by
  obtain ⟨n, e, _, hw⟩ := DataW.trod_int ht h
  refine ⟨n, e, ?_⟩
  simp [Lit.wf] at hw
  unfold inR
  have h0 : IntKind.i64.min = -9223372036854775808 := by decide
  omega
theorem rd_string {t : TypeId} (ht : P.underlying t = some .string) {fuel : Nat} {cs : List Value} {x : DataW H × List MemPlace} (h : DataW.trod enc P w base spare held fuel t cs = some x) : ∃ y, cStr.ok w.heap.size w y cs := by
  obtain ⟨s, e, _, hs⟩ := DataW.trod_string ht h
  exact ⟨s, e, hs⟩
theorem rd_slice {α : Type} {c : Cod α} {t e : TypeId} (ht : P.underlying t = some (.slice e)) (hc : P.cellsOf e = c.n) (hn : 0 < c.n) (he : ∀ (fuel : Nat) (cs : List Value) (x : DataW H × List MemPlace), DataW.trod enc P w base spare held fuel e cs = some x → ∃ y, c.ok w.heap.size w y cs)
    {fuel : Nat} {cs : List Value} {x : DataW H × List MemPlace} (h : DataW.trod enc P w base spare held fuel t cs = some x) : ∃ l, (cSlice c).ok w.heap.size w l cs := by
  rcases open_slice ht h with ⟨rfl, _⟩ | ⟨a, len, cap, m, n, D, Pl, rfl, hb, hl, hm, hmm, _, hx⟩
  · exact ⟨[], none, 0, rfl, by simp, by simp⟩
  · have hlm : len ≤ m := by rw [hmm]; split <;> omega
    rw [hc] at hx
    have hex : ∀ i, i < len → ∃ y : α, ∃ es, c.ok w.heap.size w y es ∧ ∀ k, k < c.n → w.cell? ((a.add (i * c.n)).add k) = es[k]? := by
      intro i hi
      obtain ⟨cs', h1, h2⟩ := hx i (by omega)
      obtain ⟨y, hy⟩ := he _ _ _ h2
      exact ⟨y, cs', hy, fun k hk => (World.cells?_some h1).2.2 k hk⟩
    by_cases h0 : len = 0
    · subst h0
      exact ⟨[], some a, cap, rfl, by simp, by simp⟩
    · obtain ⟨y0, hy0⟩ := hex 0 (by omega)
      haveI : Inhabited α := ⟨y0⟩
      obtain ⟨R, hR⟩ := choose_lt hex
      have hsp : a.spot = none := by
        obtain ⟨es, h1, h2⟩ := hy0
        have h3 := h2 0 hn
        have h4 := c.len h1
        rw [List.getElem?_eq_getElem (by omega)] at h3
        simp [Addr.add] at h3
        exact World.cell?_spot h3
      obtain ⟨bb, off, sp⟩ := a
      obtain rfl : sp = none := hsp
      refine ⟨(List.range len).map R, some ⟨bb, off, none⟩, cap, by simp, by simp; omega, fun j hj => ?_⟩
      simp at hj
      obtain ⟨es, h1, h2⟩ := hR j hj
      have ea (k : Nat) : (Addr.mk bb off none).add k = ⟨bb, off + k, none⟩ := by unfold Addr.add; split <;> simp_all
      have eb (k q : Nat) : (Addr.mk bb (off + k) none).add q = ⟨bb, off + k + q, none⟩ := by unfold Addr.add; split <;> simp_all
      have h3 : ∀ k, k < c.n → w.cell? ⟨bb, off + j * c.n + k, none⟩ = es[k]? := by
        intro k hk
        have := h2 k hk
        rw [ea, eb] at this
        exact this
      refine ⟨bb, off, es, rfl, ?_, by simpa using h1, h3⟩
      have h4 := h3 0 hn
      rw [List.getElem?_eq_getElem (by have := c.len h1; omega)] at h4
      exact block_lt_of_cell h4
/-- A slice among a row's parameters. -/
theorem row_slice {α : Type} {c : Cod α} {t e : TypeId} (ht : P.underlying t = some (.slice e)) (hc : P.cellsOf e = c.n) (hn : 0 < c.n) (he : ∀ (fuel : Nat) (cs : List Value) (x : DataW H × List MemPlace), DataW.trod enc P w base spare held fuel e cs = some x → ∃ y, c.ok w.heap.size w y cs)
    {r0 : Reach} {b0 : Nat} {v : Value} {d : DataW H} {ps : List MemPlace} (hval : Value.okWide P w r0 b0 t v) (h : DataW.Trod enc P w base spare held t v d ps) :
    ∃ (a : Option Addr) (cap : Nat) (l : List α), v = .slice a l.length cap ∧ At (cSlice c) w l [.slice a l.length cap] := by
  obtain ⟨a, len, cap, rfl⟩ := Go.WideShapes.okWide_slice ht hval
  obtain ⟨m, hm⟩ := h
  obtain ⟨l, hl⟩ := rd_slice ht hc hn he hm
  have hl2 := hl
  obtain ⟨a', cap', e, _⟩ := hl2
  simp [Value.cells] at e
  obtain ⟨rfl, rfl, rfl⟩ := e
  exact ⟨a, cap, l, rfl, hl⟩
/-- A struct among a row's parameters. -/
theorem row_struct {α : Type} {c : Cod α} {t : TypeId} {fs : Array Field} (ht : P.underlying t = some (.struct fs)) (he : ∀ (fuel : Nat) (cs : List Value) (x : DataW H × List MemPlace), DataW.trod enc P w base spare held fuel t cs = some x → ∃ y, c.ok w.heap.size w y cs)
    {r0 : Reach} {b0 : Nat} {v : Value} {d : DataW H} {ps : List MemPlace} (hval : Value.okWide P w r0 b0 t v) (h : DataW.Trod enc P w base spare held t v d ps) :
    ∃ (y : α) (cs : List Value), v = .agg cs.toArray ∧ At c w y cs := by
  obtain ⟨cs, rfl, _⟩ := Go.WideShapes.okWide_struct ht hval
  obtain ⟨m, hm⟩ := h
  obtain ⟨y, hy⟩ := he _ _ _ hm
  exact ⟨y, cs.toList, by simp, by show c.ok _ _ _ _; simpa [Value.cells] using hy⟩
end
end Go.Proofs.Ytpcjhnbifgjleaa

