/- Parts of an own datum, known by name: chosen out of it into a slice of their own, the rest is let go. -/
import Derived.Test.YtpofglamcaikfaaAbTwo
import Derived.Test.YtpofglamcaikfaaAbBr
namespace Go.Proofs.Ytpofglamcaikfaa.Ab
open Go.RowKit
set_option linter.unusedSimpArgs false
set_option linter.unusedVariables false
set_option maxRecDepth 100000
section
variable {α : Type} {f : α → D}
def encH (f : α → D) (p : Value × α) : List D := [.h p.1 (f p.2)]
def enc1 (f : α → D) (x : α) : List D := [f x]
theorem OwnE.name {w : World} {n : Nat} : ∀ {l : List α} {F : List Nat} {cs : List Value}, OwnE w n (l.map (enc1 f)) F cs → ∃ P : List (Value × α), P.map Prod.snd = l ∧ OwnE w n (P.map (encH f)) F cs
  | [], F, cs, h => ⟨[], rfl, h⟩
  | x :: l, F, cs, h => by
    rw [List.map_cons] at h
    simp only [OwnE] at h
    obtain ⟨F1, F2, c1, c2, rfl, h1, rfl, h3, h4, h5⟩ := h
    obtain ⟨P, hP, h6⟩ := OwnE.name h5
    unfold enc1 at h4
    simp only [OwnC] at h4
    obtain ⟨G1, G2, c, c', rfl, g1, rfl, g2, rfl, rfl⟩ := h4
    refine ⟨(c, x) :: P, by rw [List.map_cons, hP], ?_⟩
    rw [List.map_cons]
    simp only [OwnE]
    refine ⟨G1 ++ [], F2, [c], c2, rfl, h1, rfl, h3, ?_, h6⟩
    unfold encH
    simp only [OwnC, OwnD]
    exact ⟨G1, [], c, [], rfl, g1, rfl, ⟨rfl, g2⟩, rfl, rfl⟩
theorem OwnD.name {w : World} {l : List α} {F : List Nat} {c : Value} (h : OwnD w (.sl (l.map (enc1 f))) F c) : ∃ P : List (Value × α), P.map Prod.snd = l ∧ OwnD w (.sl (P.map (encH f))) F c := by
  simp only [OwnD] at h
  obtain ⟨a, cap, n, cs, h1, h2, h3, h4⟩ := h
  rw [List.length_map] at h1 h2 h3
  rcases h4 with ⟨h4, rfl, rfl⟩ | ⟨b, off, F', h5, rfl, h6, h7, h8, h9⟩
  · obtain rfl := List.map_eq_nil_iff.1 h4
    refine ⟨[], rfl, ?_⟩
    simp only [OwnD]
    exact ⟨a, cap, n, [], h1, h2, h3, .inl ⟨by simp, by simp, by simp⟩⟩
  · obtain ⟨P, hP, h10⟩ := OwnE.name h9
    have hl : P.length = l.length := by rw [← hP, List.length_map]
    refine ⟨P, hP, ?_⟩
    simp only [OwnD]
    rw [List.length_map, hl]
    exact ⟨a, cap, n, cs, h1, h2, h3, .inr ⟨b, off, F', h5, rfl, h6, h7, h8, h10⟩⟩
/-- From here on the parts of an own datum are known by name. -/
theorem Ab.name {Pr : Program} {c : Code} {Q : Exit → St → Prop} {s : St} (j t : Nat) {l : List α} (hj : s.m j = .tok (.sl (l.map (enc1 f)))) (ht : s.t t = .o j (.sl (l.map (enc1 f))))
    (k : ∀ P : List (Value × α), P.map Prod.snd = l → Ab Pr c Q { s with t := upd s.t t (.o j (.sl (P.map (encH f)))), m := upd s.m j (.tok (.sl (P.map (encH f)))) }) : Ab Pr c Q s := fun w0 a w G hi => by
  have hI := hi.mem j
  rw [hj] at hI
  simp only [InvB] at hI
  obtain ⟨hO, hF⟩ := hI
  obtain ⟨P, hP, hO2⟩ := hO.name
  have hmm : ∀ i, s.m i ≠ .none → upd s.m j (.tok (.sl (P.map (encH f)))) i ≠ .none := fun i h => by
    by_cases e : i = j
    · subst e; rw [upd_same]; exact fun h => by cases h
    · rw [upd_ne _ _ _ e]; exact h
  have lv : ∀ i, (upd s.m j (.tok (.sl (P.map (encH f)))) i).live → (s.m i).live := fun i h => by
    by_cases e : i = j
    · subst e; rw [hj]; trivial
    · rwa [upd_ne _ _ _ e] at h
  refine k P hP w0 a w G ⟨hi.below, hi.defers, hi.size, fun i hi' => ?_, hi.kold, hi.kin, fun i => ?_, fun p q hpq hl hl' => hi.disj p q hpq (lv p hl) (lv q hl')⟩
  · have h1 := hi.slots i hi'
    by_cases e : i = t
    · subst e
      simp only [upd_same]
      rw [ht] at h1
      have h2 := h1.1
      simp only [RdS] at h2
      refine ⟨?_, by simp only [S.wf, upd_same]; exact fun h => by cases h⟩
      simp only [RdS]
      refine ⟨?_, h2.2⟩
      rw [h2.2]
      exact hO2.rd (fun k hk => (hF k hk).2.2)
    · simp only [upd_ne _ _ _ e]
      exact ⟨h1.1, h1.2.mono hmm⟩
  · by_cases e : i = j
    · subst e
      simp only [upd_same, InvB]
      exact ⟨hO2, hF⟩
    · simp only [upd_ne _ _ _ e]
      exact (hi.mem i).wide hmm
theorem OwnE.pick {w : World} {n : Nat} {P R : List (Value × α)} (hs : R.Sublist P) : ∀ {F : List Nat} {cs : List Value}, OwnE w n (P.map (encH f)) F cs → ∃ FR, (∀ k, k ∈ FR → k ∈ F) ∧ OwnE w 1 (R.map fun p => enc1 f p.2) FR (R.map Prod.fst) := by
  induction hs with
  | slnil => intro F cs h; exact ⟨[], by simp, by simp only [List.map_nil, OwnE]; exact ⟨trivial, trivial⟩⟩
  | cons a hs ih =>
    intro F cs h
    rw [List.map_cons] at h
    simp only [OwnE] at h
    obtain ⟨F1, F2, c1, c2, rfl, h1, rfl, h3, h4, h5⟩ := h
    obtain ⟨FR, h6, h7⟩ := ih h5
    exact ⟨FR, fun k hk => List.mem_append_right _ (h6 k hk), h7⟩
  | cons_cons a hs ih =>
    intro F cs h
    rw [List.map_cons] at h
    simp only [OwnE] at h
    obtain ⟨F1, F2, c1, c2, rfl, h1, rfl, h3, h4, h5⟩ := h
    obtain ⟨FR, h6, h7⟩ := ih h5
    unfold encH at h4
    simp only [OwnC, OwnD] at h4
    obtain ⟨G1, G2, c, c', rfl, g1, rfl, ⟨rfl, g2⟩, rfl, rfl⟩ := h4
    refine ⟨(G1 ++ []) ++ FR, fun k hk => ?_, ?_⟩
    · rcases List.mem_append.1 hk with hk | hk
      · exact List.mem_append_left _ hk
      · exact List.mem_append_right _ (h6 k hk)
    · rw [List.map_cons, List.map_cons]
      simp only [OwnE]
      refine ⟨G1 ++ [], FR, [a.1], _, rfl, fun k hk hk2 => h1 k hk (h6 k hk2), rfl, rfl, ?_, h7⟩
      unfold enc1
      simp only [OwnC]
      exact ⟨G1, [], a.1, [], rfl, by simp, rfl, g2, rfl, rfl⟩
theorem RdE.named {w : World} {K : Nat → Nat → Prop} {n : Nat} : ∀ {R : List (Value × α)} {xs : List Value}, RdE w K n (R.map (encH f)) xs → xs = R.map Prod.fst
  | [], xs, h => by simp only [List.map_nil, RdE] at h; exact h
  | a :: R, xs, h => by
    rw [List.map_cons] at h
    simp only [RdE] at h
    obtain ⟨c1, c2, rfl, h2, h3, h4⟩ := h
    unfold encH at h3
    simp only [RdC, RdD] at h3
    obtain ⟨c, c', rfl, ⟨rfl, _⟩, rfl⟩ := h3
    rw [RdE.named h4]
    rfl
/-- A growing slice of parts of an own datum becomes an own datum; what was not chosen is let go. -/
theorem Le.pick {s : St} (i j i2 t : Nat) {e : TypeId} {dp : Bool} {P R : List (Value × α)} (ht : s.t t = .g i (R.map (encH f))) (hm1 : s.m i = .tip dp e 1 (R.map (encH f))) (hm2 : s.m j = .tok (.sl (P.map (encH f)))) (hm3 : s.m i2 = .none) (hs : R.Sublist P) (htn : t < s.n) :
    Le s { s with t := upd s.t t (.o i2 (.sl (R.map fun p => enc1 f p.2))), m := upd (upd (upd s.m i .dead) j .dead) i2 (.tok (.sl (R.map fun p => enc1 f p.2))) } := fun w0 a w G hi => by
  have hI := hi.mem i
  rw [hm1] at hI
  simp only [InvB] at hI
  obtain ⟨htl, h0, xs, F', hown, hrd, hF, hg1, hF', _⟩ := hI
  have hJ := hi.mem j
  rw [hm2] at hJ
  simp only [InvB] at hJ
  obtain ⟨hO, hFj⟩ := hJ
  have hij : i ≠ j := fun h => by rw [h, hm2] at hm1; cases hm1
  have h2i : i2 ≠ i := fun h => by rw [h, hm1] at hm3; cases hm3
  have h2j : i2 ≠ j := fun h => by rw [h, hm2] at hm3; cases hm3
  have hxs := RdE.named hrd
  obtain ⟨FR, hFR, hOR⟩ : ∃ FR, (∀ k, k ∈ FR → k ∈ G.F j) ∧ OwnE w 1 (R.map fun p => enc1 f p.2) FR (R.map Prod.fst) := by
    simp only [OwnD] at hO
    obtain ⟨a, cap, n, cs, h1, h2, h3, h4⟩ := hO
    rcases h4 with ⟨h4, h5, h6⟩ | ⟨b, off, G', h5, h6, h7, h8, h9, h10⟩
    · obtain rfl := List.map_eq_nil_iff.1 h4
      obtain rfl := List.sublist_nil.1 hs
      exact ⟨[], by simp, by simp only [List.map_nil, OwnE]; exact ⟨trivial, trivial⟩⟩
    · obtain ⟨FR, k1, k2⟩ := OwnE.pick hs h10
      exact ⟨FR, fun k hk => by rw [h6]; exact List.mem_cons_of_mem _ (k1 k hk), k2⟩
  have lvi : (s.m i).live := by rw [hm1]; trivial
  have lvj : (s.m j).live := by rw [hm2]; trivial
  have hgt : ∀ g, (G.tv i).ownBlock = some g → w0.heap.size ≤ g ∧ g < w.heap.size := fun g hg => by
    have hgF : g ∈ G.F i := by rw [hF, hg]; simp
    have := hi.lt lvi g hgF
    exact ⟨this.1, this.2⟩
  let FN : List Nat := (G.tv i).ownBlock.toList ++ FR
  let G' : Gh := { G with K := fun b o => G.K b o ∨ (G.tv i).ownBlock = some b, F := upd G.F i2 FN, ov := upd G.ov i2 (G.tv i) }
  have hk : Keep s.m w G w G' := ⟨fun b o h => ⟨.inl h, rfl⟩, fun _ _ => rfl, fun k hk => by
    have : k ≠ i2 := fun h => hk (h ▸ hm3)
    simp only [G', upd_ne _ _ _ this], fun _ _ => .inl ⟨rfl, rfl⟩⟩
  have hmm : ∀ k, s.m k ≠ .none → upd (upd (upd s.m i .dead) j .dead) i2 (.tok (.sl (R.map fun p => enc1 f p.2))) k ≠ .none := fun k h => by
    have h2 : k ≠ i2 := fun h' => h (h' ▸ hm3)
    rw [upd_ne _ _ _ h2]
    by_cases e1 : k = j
    · subst e1; rw [upd_same]; exact fun h => by cases h
    · rw [upd_ne _ _ _ e1]
      by_cases e2 : k = i
      · subst e2; rw [upd_same]; exact fun h => by cases h
      · rw [upd_ne _ _ _ e2]; exact h
  have hFN : ∀ k, k ∈ FN → w0.heap.size ≤ k ∧ k < w.heap.size ∧ ∀ o, G'.K k o := fun k hk' => by
    rcases List.mem_append.1 hk' with hk' | hk'
    · have hg : (G.tv i).ownBlock = some k := by simpa using hk'
      exact ⟨(hgt k hg).1, (hgt k hg).2, fun _ => .inr hg⟩
    · have := hFj k (hFR k hk')
      exact ⟨this.1, this.2.1, fun o => .inl (this.2.2 o)⟩
  have subF : ∀ k, k ∈ FN → k ∈ G.F i ∨ k ∈ G.F j := fun k hk' => by
    rcases List.mem_append.1 hk' with hk' | hk'
    · exact .inl (by rw [hF]; exact List.mem_append_left _ hk')
    · exact .inr (hFR k hk')
  have other : ∀ k0, k0 ≠ i → (s.m k0).live → ∀ k, k ∈ G.F k0 → ∀ o, G'.K k o ↔ G.K k o := by
    intro k0 hne hl k hk' o
    constructor
    · rintro (h | h)
      · exact h
      · exact absurd (by rw [hF, h]; simp) (hi.disj k0 i hne hl lvi _ hk')
    · exact .inl
  have live : ∀ k, (upd (upd (upd s.m i .dead) j .dead) i2 (.tok (.sl (R.map fun p => enc1 f p.2))) k).live → k = i2 ∨ (k ≠ i2 ∧ k ≠ i ∧ k ≠ j ∧ (s.m k).live) := fun k h => by
    by_cases h2 : k = i2
    · exact .inl h2
    · rw [upd_ne _ _ _ h2] at h
      by_cases e1 : k = j
      · subst e1; rw [upd_same] at h; exact h.elim
      · rw [upd_ne _ _ _ e1] at h
        by_cases e2 : k = i
        · subst e2; rw [upd_same] at h; exact h.elim
        · rw [upd_ne _ _ _ e2] at h; exact .inr ⟨h2, e2, e1, h⟩
  have hOD : OwnD w (.sl (R.map fun p => enc1 f p.2)) FN (G.tv i) := by
    refine row_own (n := 1) (xs := xs) (e := e) (w0 := w0) ?_ ?_ ?_
    · rw [List.length_map]; rw [List.length_map] at hown; exact hown
    · rw [hxs]; exact hOR
    · intro g hg hk'
      exact hi.disj i j hij lvi lvj g (by rw [hF, hg]; simp) (hFR g hk')
  have hs0 := (hi.slots t htn).1
  rw [ht] at hs0
  simp only [RdS] at hs0
  have hval := hs0.2.2 htl.symm
  refine ⟨G', hi.below, hi.defers, hi.size, fun k hk' => ?_, fun b o hb => ?_, fun b o h => ?_, fun k => ?_, fun p q hpq hl hl' k hk1 hk2 => ?_⟩
  · have h1 := hi.slots k hk'
    by_cases hit : k = t
    · subst hit
      simp only [upd_same]
      refine ⟨?_, by simp only [S.wf, upd_same]; exact fun h => by cases h⟩
      simp only [RdS, G', upd_same]
      refine ⟨?_, hval⟩
      rw [hval]
      exact hOD.rd (fun k hk => (hFN k hk).2.2)
    · simp only [upd_ne _ _ _ hit]
      exact ⟨h1.1.keep hk h1.2, h1.2.mono hmm⟩
  · rw [← hi.kold b o hb]
    constructor
    · rintro (h | h)
      · exact h
      · have := (hgt b h).1; omega
    · exact .inl
  · rcases h with h | h
    · exact hi.kin b o h
    · exact (hgt b h).2
  · by_cases h2 : k = i2
    · subst h2
      simp only [InvB, G', upd_same]
      exact ⟨hOD, hFN⟩
    · simp only [upd_ne _ _ _ h2]
      by_cases e1 : k = j
      · subst e1; simp only [upd_same]; trivial
      · simp only [upd_ne _ _ _ e1]
        by_cases e2 : k = i
        · subst e2; simp only [upd_same]; trivial
        · simp only [upd_ne _ _ _ e2]
          have h3 : s.m k ≠ .none → InvB w0 w G' (upd (upd (upd s.m i .dead) j .dead) i2 (.tok (.sl (R.map fun p => enc1 f p.2)))) k (s.m k) := fun hid => by
            by_cases hl : (s.m k).live
            · exact InvB.keep hk hmm hid (fun k1 hk' => ⟨rfl, other k e2 hl k1 hk'⟩) (upd_ne _ _ _ h2) ⟨rfl, rfl⟩ (Nat.le_refl _) (hi.mem k)
            · cases hx : s.m k <;> rw [hx] at hl <;> first | trivial | exact absurd trivial hl
          by_cases hid : s.m k = .none
          · rw [hid]; trivial
          · exact h3 hid
  · rcases live p hl with rfl | ⟨a1, a2, a3, a4⟩
    · rcases live q hl' with rfl | ⟨b1, b2, b3, b4⟩
      · exact hpq rfl
      · simp only [G', upd_same] at hk1
        simp only [G', upd_ne _ _ _ b1] at hk2
        rcases subF k hk1 with h | h
        · exact hi.disj i q (fun e => b2 e.symm) lvi b4 k h hk2
        · exact hi.disj j q (fun e => b3 e.symm) lvj b4 k h hk2
    · simp only [G', upd_ne _ _ _ a1] at hk1
      rcases live q hl' with rfl | ⟨b1, b2, b3, b4⟩
      · simp only [G', upd_same] at hk2
        rcases subF k hk2 with h | h
        · exact hi.disj p i a2 a4 lvi k hk1 h
        · exact hi.disj p j a3 a4 lvj k hk1 h
      · simp only [G', upd_ne _ _ _ b1] at hk2
        exact hi.disj p q hpq a4 b4 k hk1 hk2
end
end Go.Proofs.Ytpofglamcaikfaa.Ab

