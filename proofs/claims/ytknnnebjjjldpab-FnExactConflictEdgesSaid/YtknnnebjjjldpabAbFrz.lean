/- A variable that will not be written again: from here on it is only read. -/
import Derived.Test.YtknnnebjjjldpabAbTwo
import Derived.Test.YtknnnebjjjldpabAbBr
namespace Go.Proofs.Ytknnnebjjjldpab.Ab
open Go.RowKit
set_option linter.unusedSimpArgs false
set_option linter.unusedVariables false
set_option maxRecDepth 100000
theorem Le.freeze {s : St} {id t : Nat} {ds : List D} (hm : s.m id = .box (ds.map S.d)) (ht : s.t t = .p id 0) : Le s { s with t := upd s.t t (.e ds 0), m := upd s.m id .dead } := fun w0 a w G hi => by
  have hbx := hi.mem id
  rw [hm] at hbx
  simp only [InvB] at hbx
  obtain ⟨hF, hge, hnK, hwf, cs, elem, hheap, hrd, hone⟩ := hbx
  have hlt : G.bx id < w.heap.size := (Array.getElem?_eq_some_iff.1 hheap).1
  let G' : Gh := { G with K := fun b o => G.K b o ∨ b = G.bx id }
  have hk : Keep s.m w G w G' := ⟨fun b o h => ⟨.inl h, rfl⟩, fun _ _ => rfl, fun _ _ => rfl, fun _ _ => .inl ⟨rfl, rfl⟩⟩
  have hmm : ∀ j, s.m j ≠ .none → upd s.m id .dead j ≠ .none := fun j h => by
    by_cases hj : j = id
    · subst hj; rw [upd_same]; exact fun h => by cases h
    · rw [upd_ne _ _ _ hj]; exact h
  have other : ∀ j, j ≠ id → (s.m j).live → ∀ k, k ∈ G.F j → ∀ o, G'.K k o ↔ G.K k o := by
    intro j hj hl k hk' o
    constructor
    · rintro (h | rfl)
      · exact h
      · exact absurd (by rw [hF]; simp) (hi.disj j id hj hl (by rw [hm]; trivial) _ hk')
    · exact .inl
  have live : ∀ i, (upd s.m id .dead i).live → i ≠ id ∧ (s.m i).live := fun i h => by
    by_cases hj : i = id
    · subst hj; rw [upd_same] at h; exact h.elim
    · rw [upd_ne _ _ _ hj] at h; exact ⟨hj, h⟩
  refine ⟨G', hi.below, hi.defers, hi.size, fun i hi' => ?_, fun b o hb => ?_, fun b o h => ?_, fun j => ?_, fun i j hij hl hl' => hi.disj i j hij (live i hl).2 (live j hl').2⟩
  · have h1 := hi.slots i hi'
    by_cases hit : i = t
    · subst hit
      simp only [upd_same]
      rw [ht] at h1
      have h2 := h1.1
      simp only [RdS] at h2
      refine ⟨?_, by simp only [S.wf]⟩
      simp only [RdS]
      refine ⟨G.bx id, 0, cs.toList, by rw [Nat.zero_add]; exact h2, (rdC_map hrd).keep (fun b o hb => ⟨.inl hb, rfl⟩), fun i c hc => ⟨?_, .inr rfl⟩⟩
      rw [Nat.zero_add, cell_of_row w (G.bx id) i cs elem (0, 0) hheap]
      simpa using hc
    · simp only [upd_ne _ _ _ hit]
      exact ⟨h1.1.keep hk h1.2, h1.2.mono hmm⟩
  · rw [← hi.kold b o hb]
    constructor
    · rintro (h | rfl)
      · exact h
      · omega
    · exact .inl
  · rcases h with h | rfl
    · exact hi.kin b o h
    · exact hlt
  · by_cases hj : j = id
    · subst hj; simp only [upd_same]; trivial
    · simp only [upd_ne _ _ _ hj]
      have h1 := hi.mem j
      have h2 := other j hj
      have h3 : s.m j ≠ .none → InvB w0 w G' (upd s.m id .dead) j (s.m j) := fun hid => by
        by_cases hl : (s.m j).live
        · exact InvB.keep hk hmm hid (fun k hk' => ⟨rfl, h2 hl k hk'⟩) rfl ⟨rfl, rfl⟩ (Nat.le_refl _) h1
        · cases hx : s.m j <;> rw [hx] at hl <;> first | trivial | exact absurd trivial hl
      by_cases hid : s.m j = .none
      · rw [hid]; trivial
      · exact h3 hid
end Go.Proofs.Ytknnnebjjjldpab.Ab

