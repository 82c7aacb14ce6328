/- strings.Join in the layer. -/
import Derived.Test.YtlcogbmceanghaaDoorStrP
import Derived.Test.YtlcogbmceanghaaDoorShelf
open Go Go.Proofs Go.RowKit
namespace Go.Proofs.YtlcogbmceanghaaDoor.Ab
set_option linter.unusedSimpArgs false
set_option linter.unusedVariables false
set_option maxRecDepth 100000
theorem encT_cells {w : World} {K : Nat → Nat → Prop} : ∀ {l : List ByteArray} {n : Nat} {cs : List Value}, RdE w K n (l.map encT) cs → cs = l.map Value.string
  | [], n, cs, h => by
    simp only [List.map_nil, RdE] at h
    exact h
  | x :: l, n, cs, h => by
    simp only [List.map_cons, RdE, encT, RdC, RdD] at h
    obtain ⟨c1, c2, rfl, _, ⟨c, c3, rfl, ⟨rfl, _⟩, rfl⟩, h2⟩ := h
    rw [encT_cells h2]
    rfl
theorem join_a (l : List ByteArray) (sep : ByteArray) (hl : l.length ≤ 1048576) (hz : (jn sep l).size ≤ 140737488355328) : AC Tryd.prog 102 [.d (.sl (l.map encT)), .d (.v (.string sep))] (.d (.v (.string (jn sep l)))) :=
  AC.plain Tryd.func102 rfl (by decide) rfl (fun w K cs ov hK hr => by
    simp only [RdSs] at hr
    obtain ⟨v0, _, rfl, q0, v1, _, rfl, q1, rfl⟩ := hr
    obtain rfl := q1.val
    simp only [RdS, RdD] at q0
    obtain ⟨a, cap, n, xs, rfl, h1, h2, h3, h4⟩ := q0
    have h3 := encT_cells h3
    subst h3
    rw [List.length_map] at h1 h2 ⊢
    rcases h4 with h4 | ⟨b, off, rfl, h4⟩
    · have h5 : l = [] := by simpa using h4
      subst h5
      refine Calls.mono (Tryd.strings_Join_none a cap sep w) ?_
      rintro e w' ⟨rfl, rfl⟩
      exact ⟨rfl, Below.refl _ _⟩
    · have hb : l = [] ∨ b < w.heap.size := by
        cases l with
        | nil => exact .inl rfl
        | cons x l => exact .inr (hK _ _ (h4 0 (.string x) rfl).2)
      rcases hb with rfl | hb
      · refine Calls.mono (Tryd.strings_Join_none _ cap sep w) ?_
        rintro e w' ⟨rfl, rfl⟩
        exact ⟨rfl, Below.refl _ _⟩
      · rw [← jn_lib] at hz ⊢
        refine Calls.mono (Tryd.strings_Join b off cap l sep w (fun j x hj => (h4 j (.string x) (by rw [List.getElem?_map, hj]; rfl)).1) hb (by omega) h1 (by simpa [ByteArray.size] using hz)) ?_
        exact fun e w' h => h)
end Go.Proofs.YtlcogbmceanghaaDoor.Ab

