/- A made slice that will be appended to: from here on it grows. -/
import Derived.Test.YtpofglamcaikfaaAbTwo
import Derived.Test.YtpofglamcaikfaaAbBr
namespace Go.Proofs.Ytpofglamcaikfaa.Ab
open Go.RowKit
set_option linter.unusedSimpArgs false
set_option linter.unusedVariables false
set_option maxRecDepth 100000
theorem Le.tipOf {s : St} {id id2 t n : Nat} {deep : Bool} {e : TypeId} {es : List (List D)} (ha : s.m id = .arr deep e n es) (hm : s.m id2 = .none) (ht : s.t t = .m id) : Le s { s with t := upd s.t t (.g id2 es), m := upd (upd s.m id .dead) id2 (.tip deep e n es) } := fun w0 a w G hi => by
  obtain ⟨h0, cap, cur, xs, F', hov, hheap, hnc, hcm, hcs, htake, hge, hrd, hF, hnF, hnK, hin, hdeep⟩ := hi.arr ha
  have hlt : G.bx id < w.heap.size := (Array.getElem?_eq_some_iff.1 hheap).1
  have hne : id2 ≠ id := fun h => by rw [h, ha] at hm; cases hm
  have hxl : xs.length = es.length * n := hrd.len
  let G' : Gh := { G with K := fun b o => G.K b o ∨ (b = G.bx id ∧ o < es.length * n), F := upd G.F id2 (G.F id), tv := upd G.tv id2 (G.ov id), tl := upd G.tl id2 es.length }
  have hk : Keep s.m w G w G' := ⟨fun b o h => ⟨.inl h, rfl⟩, fun _ _ => rfl, fun _ _ => rfl, fun j hj => .inl (by
    have : j ≠ id2 := fun h => hj (h ▸ hm)
    simp only [G', upd_ne _ _ _ this, and_self])⟩
  have hmm : ∀ j, s.m j ≠ .none → upd (upd s.m id .dead) id2 (.tip deep e n es) j ≠ .none := fun j h => by
    have h2 : j ≠ id2 := fun h' => h (h' ▸ hm)
    rw [upd_ne _ _ _ h2]
    by_cases hj : j = id
    · subst hj; rw [upd_same]; exact fun h => by cases h
    · rw [upd_ne _ _ _ hj]; exact h
  have hrd' : RdE w G'.K n es xs := hrd.keep (fun b o h => ⟨.inl h, rfl⟩)
  have hown : w.ownsRow w0.heap.size e n (G.ov id) es.length xs := ⟨hxl, .inr ⟨G.bx id, cap, cur, hov, hge, hheap, hnc, hcm, hcs, htake⟩⟩
  have hb : (G.ov id).ownBlock = some (G.bx id) := by rw [hov]; rfl
  have other : ∀ j, j ≠ id → (s.m j).live → ∀ k, k ∈ G.F j → ∀ o, G'.K k o ↔ G.K k o := by
    intro j hj hl k hk' o
    constructor
    · rintro (h | ⟨rfl, _⟩)
      · exact h
      · exact absurd (by rw [hF]; simp) (hi.disj j id hj hl (by rw [ha]; trivial) _ hk')
    · exact .inl
  have live : ∀ i, (upd (upd s.m id .dead) id2 (.tip deep e n es) i).live → i = id2 ∨ (i ≠ id2 ∧ i ≠ id ∧ (s.m i).live) := fun i h => by
    by_cases h2 : i = id2
    · exact .inl h2
    · rw [upd_ne _ _ _ h2] at h
      by_cases hj : i = id
      · subst hj; rw [upd_same] at h; exact h.elim
      · rw [upd_ne _ _ _ hj] at h; exact .inr ⟨h2, hj, h⟩
  refine ⟨G', hi.below, hi.defers, hi.size, fun i hi' => ?_, fun b o hb' => ?_, fun b o h => ?_, fun j => ?_, fun i j hij hl hl' k hk1 hk2 => ?_⟩
  · have h1 := hi.slots i hi'
    by_cases hit : i = t
    · subst hit
      simp only [upd_same]
      rw [ht] at h1
      have h2 := h1.1
      simp only [RdS] at h2
      refine ⟨?_, by simp only [S.wf, upd_same]; exact fun h => by cases h⟩
      simp only [RdS, G', upd_same]
      refine ⟨?_, Nat.le_refl _, fun _ => h2.1⟩
      simp only [RdD]
      refine ⟨some ⟨G.bx id, 0, none⟩, cap, n, xs, by rw [h2.1, hov], hnc, Nat.le_trans hnc hcm, hrd', .inr ⟨G.bx id, 0, rfl, fun q c hq => ?_⟩⟩
      rw [Nat.zero_add]
      have hql := (List.getElem?_eq_some_iff.1 hq).1
      refine ⟨?_, .inr ⟨rfl, by omega⟩⟩
      rw [cell_of_row w (G.bx id) q cur e (0, 0) hheap]
      rw [← htake, List.getElem?_take_of_lt (by omega)] at hq
      simpa using hq
    · simp only [upd_ne _ _ _ hit]
      exact ⟨h1.1.keep hk h1.2, h1.2.mono hmm⟩
  · rw [← hi.kold b o hb']
    constructor
    · rintro (h | ⟨rfl, _⟩)
      · exact h
      · omega
    · exact .inl
  · rcases h with h | ⟨rfl, _⟩
    · exact hi.kin b o h
    · exact hlt
  · by_cases h2 : j = id2
    · subst h2
      simp only [InvB, G', upd_same]
      refine ⟨trivial, h0, xs, F', hown, hrd', by rw [hb, hF]; rfl, fun g hg => ?_, fun k hk' => ?_, hdeep⟩
      · rw [hb] at hg
        simp only [Option.some.injEq] at hg
        subst hg
        refine ⟨hnF, fun o => ⟨?_, fun h => .inr ⟨rfl, h⟩⟩⟩
        rintro (h | ⟨_, h⟩)
        · exact absurd h (hnK o)
        · exact h
      · have := hin k hk'
        exact ⟨this.1, this.2.1, fun o => .inl (this.2.2 o)⟩
    · simp only [upd_ne _ _ _ h2]
      by_cases hj : j = id
      · subst hj; simp only [upd_same]; trivial
      · simp only [upd_ne _ _ _ hj]
        have h1 := hi.mem j
        have h3 : s.m j ≠ .none → InvB w0 w G' (upd (upd s.m id .dead) id2 (.tip deep e n es)) j (s.m j) := fun hid => by
          by_cases hl : (s.m j).live
          · exact InvB.keep hk hmm hid (fun k hk' => ⟨rfl, other j hj hl k hk'⟩) (upd_ne _ _ _ h2) ⟨upd_ne _ _ _ h2, upd_ne _ _ _ h2⟩ (Nat.le_refl _) h1
          · cases hx : s.m j <;> rw [hx] at hl <;> first | trivial | exact absurd trivial hl
        by_cases hid : s.m j = .none
        · rw [hid]; trivial
        · exact h3 hid
  · have lid : (s.m id).live := by rw [ha]; trivial
    rcases live i hl with rfl | ⟨a1, a2, a3⟩
    · rcases live j hl' with rfl | ⟨b1, b2, b3⟩
      · exact hij rfl
      · simp only [G', upd_same] at hk1
        simp only [G', upd_ne _ _ _ b1] at hk2
        exact hi.disj id j (fun e => b2 e.symm) lid b3 k hk1 hk2
    · simp only [G', upd_ne _ _ _ a1] at hk1
      rcases live j hl' with rfl | ⟨b1, b2, b3⟩
      · simp only [G', upd_same] at hk2
        exact hi.disj i id a2 a3 lid k hk1 hk2
      · simp only [G', upd_ne _ _ _ b1] at hk2
        exact hi.disj i j hij a3 b3 k hk1 hk2
end Go.Proofs.Ytpofglamcaikfaa.Ab

