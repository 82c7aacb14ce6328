/- One part of an own datum becomes an own datum; the rest is let go. -/
import Derived.Test.YtpofglamcaikfaaAbHd
namespace Go.Proofs.Ytpofglamcaikfaa.Ab
open Go.RowKit
set_option linter.unusedSimpArgs false
set_option linter.unusedVariables false
set_option maxRecDepth 100000
section
variable {α : Type} {f : α → D}
theorem OwnE.part {w : World} {n : Nat} {q : Value × α} : ∀ {P : List (Value × α)} {F : List Nat} {cs : List Value}, OwnE w n (P.map (encH f)) F cs → q ∈ P → ∃ F1, (∀ k, k ∈ F1 → k ∈ F) ∧ OwnD w (f q.2) F1 q.1
  | [], F, cs, h, hq => by cases hq
  | a :: P, F, cs, h, hq => by
    rw [List.map_cons] at h
    simp only [OwnE] at h
    obtain ⟨F1, F2, c1, c2, rfl, h1, rfl, h3, h4, h5⟩ := h
    rcases List.mem_cons.1 hq with rfl | hq
    · unfold encH at h4
      simp only [OwnC, OwnD] at h4
      obtain ⟨G1, G2, c, c', rfl, g1, rfl, ⟨rfl, g2⟩, rfl, rfl⟩ := h4
      exact ⟨G1, fun k hk => List.mem_append_left _ (List.mem_append_left _ hk), g2⟩
    · obtain ⟨FR, h6, h7⟩ := OwnE.part h5 hq
      exact ⟨FR, fun k hk => List.mem_append_right _ (h6 k hk), h7⟩
theorem Le.part {s : St} (j j2 t : Nat) {P : List (Value × α)} {q : Value × α} (hq : q ∈ P) (ht : s.t t = .d (.h q.1 (f q.2))) (hm2 : s.m j = .tok (.sl (P.map (encH f)))) (hm3 : s.m j2 = .none) (htn : t < s.n) :
    Le s { s with t := upd s.t t (.o j2 (f q.2)), m := upd (upd s.m j .dead) j2 (.tok (f q.2)) } := fun w0 a w G hi => by
  have hJ := hi.mem j
  rw [hm2] at hJ
  simp only [InvB] at hJ
  obtain ⟨hO, hFj⟩ := hJ
  have h2j : j2 ≠ j := fun h => by rw [h, hm2] at hm3; cases hm3
  obtain ⟨F1, hF1, hO1⟩ : ∃ F1, (∀ k, k ∈ F1 → k ∈ G.F j) ∧ OwnD w (f q.2) F1 q.1 := by
    simp only [OwnD] at hO
    obtain ⟨a, cap, n, cs, h1, h2, h3, h4⟩ := hO
    rcases h4 with ⟨h4, h5, h6⟩ | ⟨b, off, G', h5, h6, h7, h8, h9, h10⟩
    · obtain rfl := List.map_eq_nil_iff.1 h4
      cases hq
    · obtain ⟨F1, k1, k2⟩ := OwnE.part h10 hq
      exact ⟨F1, fun k hk => by rw [h6]; exact List.mem_cons_of_mem _ (k1 k hk), k2⟩
  have lvj : (s.m j).live := by rw [hm2]; trivial
  let G' : Gh := { G with F := upd G.F j2 F1, ov := upd G.ov j2 q.1 }
  have hk : Keep s.m w G w G' := ⟨fun b o h => ⟨h, rfl⟩, fun _ _ => rfl, fun k hk => by
    have : k ≠ j2 := fun h => hk (h ▸ hm3)
    simp only [G', upd_ne _ _ _ this], fun _ _ => .inl ⟨rfl, rfl⟩⟩
  have hmm : ∀ k, s.m k ≠ .none → upd (upd s.m j .dead) j2 (.tok (f q.2)) k ≠ .none := fun k h => by
    have h2 : k ≠ j2 := fun h' => h (h' ▸ hm3)
    rw [upd_ne _ _ _ h2]
    by_cases e1 : k = j
    · subst e1; rw [upd_same]; exact fun h => by cases h
    · rw [upd_ne _ _ _ e1]; exact h
  have hFN : ∀ k, k ∈ F1 → w0.heap.size ≤ k ∧ k < w.heap.size ∧ ∀ o, G'.K k o := fun k hk' => hFj k (hF1 k hk')
  have live : ∀ k, (upd (upd s.m j .dead) j2 (.tok (f q.2)) k).live → k = j2 ∨ (k ≠ j2 ∧ k ≠ j ∧ (s.m k).live) := fun k h => by
    by_cases h2 : k = j2
    · exact .inl h2
    · rw [upd_ne _ _ _ h2] at h
      by_cases e1 : k = j
      · subst e1; rw [upd_same] at h; exact h.elim
      · rw [upd_ne _ _ _ e1] at h; exact .inr ⟨h2, e1, h⟩
  have hs0 := (hi.slots t htn).1
  rw [ht] at hs0
  simp only [RdS, RdD] at hs0
  refine ⟨G', hi.below, hi.defers, hi.size, fun k hk' => ?_, hi.kold, hi.kin, fun k => ?_, fun p r hpq hl hl' k hk1 hk2 => ?_⟩
  · have h1 := hi.slots k hk'
    by_cases hit : k = t
    · subst hit
      simp only [upd_same]
      refine ⟨?_, by simp only [S.wf, upd_same]; exact fun h => by cases h⟩
      simp only [RdS, G', upd_same]
      exact ⟨hs0.2, hs0.1⟩
    · simp only [upd_ne _ _ _ hit]
      exact ⟨h1.1.keep hk h1.2, h1.2.mono hmm⟩
  · by_cases h2 : k = j2
    · subst h2
      simp only [InvB, G', upd_same]
      exact ⟨hO1, hFN⟩
    · simp only [upd_ne _ _ _ h2]
      by_cases e1 : k = j
      · subst e1; simp only [upd_same]; trivial
      · simp only [upd_ne _ _ _ e1]
        by_cases hid : s.m k = .none
        · rw [hid]; trivial
        · exact InvB.keep hk hmm hid (fun _ _ => ⟨rfl, fun _ => Iff.rfl⟩) (upd_ne _ _ _ h2) ⟨rfl, rfl⟩ (Nat.le_refl _) (hi.mem k)
  · rcases live p hl with rfl | ⟨a1, a3, a4⟩
    · rcases live r hl' with rfl | ⟨b1, b3, b4⟩
      · exact hpq rfl
      · simp only [G', upd_same] at hk1
        simp only [G', upd_ne _ _ _ b1] at hk2
        exact hi.disj j r (fun e => b3 e.symm) lvj b4 k (hF1 k hk1) hk2
    · simp only [G', upd_ne _ _ _ a1] at hk1
      rcases live r hl' with rfl | ⟨b1, b3, b4⟩
      · simp only [G', upd_same] at hk2
        exact hi.disj p j a3 a4 lvj k hk1 (hF1 k hk2)
      · simp only [G', upd_ne _ _ _ b1] at hk2
        exact hi.disj p r hpq a4 b4 k hk1 hk2
end
end Go.Proofs.Ytpofglamcaikfaa.Ab

