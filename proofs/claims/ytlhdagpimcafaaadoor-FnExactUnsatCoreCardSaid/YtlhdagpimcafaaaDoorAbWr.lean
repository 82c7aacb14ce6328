/- A contract's answer under another number. -/
import Derived.Test.YtlhdagpimcafaaaDoorAbTwo
namespace Go.Proofs.YtlhdagpimcafaaaDoor.Ab
open Go.RowKit
set_option linter.unusedSimpArgs false
set_option linter.unusedVariables false
set_option maxRecDepth 100000
theorem AW.ren {P : Program} {f : FuncId} {args : List S} {i j n : Nat} {d : Bool} {e : TypeId} {es : List (List D)} (hj : j ≠ 9) (hi : i ≠ 9) (h : AW P f args [] (.g i es) [(i, .tip d e n es)]) : AW P f args [] (.g j es) [(j, .tip d e n es)] := by
  obtain ⟨h1, h2, h3⟩ := h
  refine ⟨h1, ⟨by simp [keysM], by simp [keysM], h2.w1, by simp [wfM], by simp [S.wf, updl, upd], by simp [wfM, wfB]⟩, fun w0 w G cs hI hr => ?_⟩
  refine Calls.mono (h3 w0 w G cs hI hr) ?_
  rintro x w' ⟨c, G', rfl, hc, hM⟩
  let G2 : Gh := { G' with F := upd G'.F j (G'.F i), tv := upd G'.tv j (G'.tv i), tl := upd G'.tl j (G'.tl i), bx := upd G'.bx j (G'.bx i), ov := upd G'.ov j (G'.ov i) }
  have hmi := hM.mem i
  have e1 : fM (keysM ([] : List (Nat × B))) [(i, B.tip d e n es)] i = .tip d e n es := by simp [fM, updl, upd, hi]
  have e9 : ∀ k x, fM (keysM ([] : List (Nat × B))) [(k, x)] 9 = .frm [] := fun k x => by simp [fM, upd, keysM]
  have e2 : fM (keysM ([] : List (Nat × B))) [(j, B.tip d e n es)] j = .tip d e n es := by simp [fM, updl, upd, hj]
  have e3 : ∀ k x id, id ≠ 9 → id ≠ k → fM (keysM ([] : List (Nat × B))) [(k, x)] id = .none := fun k x id a b => by simp [fM, updl, upd, a, b]
  refine ⟨c, G2, rfl, ?_, ⟨hM.below, hM.kold, hM.kin, fun id => ?_, fun a b hab hla hlb => ?_⟩⟩
  · simp only [RdS] at hc ⊢
    simp only [G2, upd_same]
    exact hc
  · by_cases h9 : id = 9
    · subst h9
      have := hM.mem 9
      rw [e9] at this ⊢
      simp only [InvB] at this ⊢
      have hne : (9 : Nat) ≠ j := fun e => hj e.symm
      simp only [G2, upd_ne _ _ _ hne]
      exact ⟨this.1, this.2.1, this.2.2.1, this.2.2.2.1, fun i hi => by simp at hi⟩
    · by_cases hij : id = j
      · subst hij
        rw [e1] at hmi
        rw [e2]
        simp only [InvB] at hmi ⊢
        simp only [G2, upd_same]
        exact hmi
      · rw [e3 _ _ _ h9 hij]
        trivial
  · have hk : ∀ z, (fM (keysM ([] : List (Nat × B))) [(j, B.tip d e n es)] z).live → z = 9 ∨ z = j := fun z hz => by
      by_cases h9 : z = 9
      · exact .inl h9
      · by_cases hij : z = j
        · exact .inr hij
        · rw [e3 _ _ _ h9 hij] at hz; exact hz.elim
    have hne : (9 : Nat) ≠ j := fun e => hj e.symm
    have hl9 : (fM (keysM ([] : List (Nat × B))) [(i, B.tip d e n es)] 9).live := by rw [e9]; trivial
    have hli : (fM (keysM ([] : List (Nat × B))) [(i, B.tip d e n es)] i).live := by rw [e1]; trivial
    have key1 := hM.disj 9 i (fun e => hi e.symm) hl9 hli
    have key2 := hM.disj i 9 hi hli hl9
    intro k hk1 hk2
    rcases hk a hla with rfl | rfl
    · rcases hk b hlb with rfl | rfl
      · exact hab rfl
      · simp only [G2, upd_same, upd_ne _ _ _ hne] at hk1 hk2
        exact key1 k hk1 hk2
    · rcases hk b hlb with rfl | rfl
      · simp only [G2, upd_same, upd_ne _ _ _ hne] at hk1 hk2
        exact key2 k hk1 hk2
      · exact hab rfl
end Go.Proofs.YtlhdagpimcafaaaDoor.Ab

