/- A number of the frame's own memory is given another name. -/
import Derived.Test.YtknnnebjjjldpabAbTwo
namespace Go.Proofs.Ytknnnebjjjldpab.Ab
open Go.RowKit
set_option linter.unusedSimpArgs false
set_option linter.unusedSectionVars false
set_option linter.unusedVariables false
set_option maxRecDepth 100000
def rn (i j k : Nat) : Nat := if k = i then j else k
mutual
def S.ren (i j : Nat) : S → S
  | .u => .u
  | .d x => .d x
  | .a l => .a (S.renl i j l)
  | .t l => .t (S.renl i j l)
  | .p k z => .p (rn i j k) z
  | .e l z => .e l z
  | .g k es => .g (rn i j k) es
  | .o k x => .o (rn i j k) x
  | .f fn x y => .f fn (S.renl i j x) (S.renl i j y)
  | .m k => .m (rn i j k)
  | .q k n y z => .q (rn i j k) n y z
def S.renl (i j : Nat) : List S → List S
  | [] => []
  | s :: l => S.ren i j s :: S.renl i j l
end
def B.ren (i j : Nat) : B → B
  | .box l => .box (S.renl i j l)
  | x => x
def renG (i j : Nat) (G : Gh) : Gh := { K := G.K, F := upd G.F j (G.F i), bx := upd G.bx j (G.bx i), tv := upd G.tv j (G.tv i), ov := upd G.ov j (G.ov i), tl := upd G.tl j (G.tl i) }
theorem ren_at {α : Type} {f : Nat → α} {i j k : Nat} (h : k ≠ j) : upd f j (f i) (rn i j k) = f k := by
  unfold rn
  split
  · rename_i e; subst e; exact upd_same _ _ _
  · exact upd_ne _ _ _ h
section
variable {w : World} {G : Gh} {m : Nat → B} {i j : Nat} (hj : m j = .none)
include hj
theorem ren_ne {k : Nat} (h : m k ≠ .none) : k ≠ j := fun e => h (e ▸ hj)
mutual
theorem RdS.ren : ∀ {x : S} {c : Value}, x.wf m → RdS w G x c → RdS w (renG i j G) (x.ren i j) c
  | .u, c, _, _ => by simp only [S.ren, RdS]
  | .d x, c, _, h => by simp only [S.ren, RdS] at h ⊢; exact h
  | .a l, c, hw, h => by
    simp only [S.wf] at hw
    simp only [S.ren, RdS] at h ⊢
    obtain ⟨cs, h1, h2, h3⟩ := h
    exact ⟨cs, h1, RdSs.ren hw h2, h3⟩
  | .t l, c, hw, h => by
    simp only [S.wf] at hw
    simp only [S.ren, RdS] at h ⊢
    obtain ⟨cs, h1, h2⟩ := h
    exact ⟨cs, h1, RdSs.ren hw h2⟩
  | .p k z, c, hw, h => by
    simp only [S.wf] at hw
    simp only [S.ren, RdS, renG, ren_at (ren_ne hj hw)] at h ⊢
    exact h
  | .e l z, c, _, h => by simp only [S.ren, RdS] at h ⊢; exact h
  | .g k es, c, hw, h => by
    simp only [S.wf] at hw
    simp only [S.ren, RdS, renG, ren_at (ren_ne hj hw)] at h ⊢
    exact h
  | .o k x, c, hw, h => by
    simp only [S.wf] at hw
    simp only [S.ren, RdS, renG, ren_at (ren_ne hj hw)] at h ⊢
    exact h
  | .f fn x y, c, hw, h => by
    simp only [S.wf] at hw
    simp only [S.ren, RdS] at h ⊢
    obtain ⟨u, v, h1, h2, h3⟩ := h
    exact ⟨u, v, h1, RdSs.ren hw.1 h2, RdSs.ren hw.2 h3⟩
  | .m k, c, hw, h => by
    simp only [S.wf] at hw
    simp only [S.ren, RdS, renG, ren_at (ren_ne hj hw)] at h ⊢
    exact h
  | .q k n y z, c, hw, h => by
    simp only [S.wf] at hw
    simp only [S.ren, RdS, renG, ren_at (ren_ne hj hw)] at h ⊢
    exact h
theorem RdSs.ren : ∀ {l : List S} {cs : List Value}, S.wfs m l → RdSs w G l cs → RdSs w (renG i j G) (S.renl i j l) cs
  | [], cs, _, h => by simpa only [S.renl, RdSs] using h
  | x :: l, cs, hw, h => by
    simp only [S.wfs] at hw
    simp only [S.renl, RdSs] at h ⊢
    obtain ⟨c, c2, h1, h2, h3⟩ := h
    exact ⟨c, c2, h1, RdS.ren hw.1 h2, RdSs.ren hw.2 h3⟩
end
mutual
theorem S.wf.ren {M : Nat → B} (hM : ∀ k, m k ≠ .none → M (rn i j k) ≠ .none) : ∀ {x : S}, x.wf m → (x.ren i j).wf M
  | .u, _ => by simp only [S.ren, S.wf]
  | .d x, _ => by simp only [S.ren, S.wf]
  | .a l, h => by simp only [S.ren, S.wf] at h ⊢; exact S.wfs.ren hM h
  | .t l, h => by simp only [S.ren, S.wf] at h ⊢; exact S.wfs.ren hM h
  | .p k z, h => by simp only [S.ren, S.wf] at h ⊢; exact hM _ h
  | .e l z, _ => by simp only [S.ren, S.wf]
  | .g k es, h => by simp only [S.ren, S.wf] at h ⊢; exact hM _ h
  | .o k x, h => by simp only [S.ren, S.wf] at h ⊢; exact hM _ h
  | .f fn x y, h => by simp only [S.ren, S.wf] at h ⊢; exact ⟨S.wfs.ren hM h.1, S.wfs.ren hM h.2⟩
  | .m k, h => by simp only [S.ren, S.wf] at h ⊢; exact hM _ h
  | .q k n y z, h => by simp only [S.ren, S.wf] at h ⊢; exact hM _ h
theorem S.wfs.ren {M : Nat → B} (hM : ∀ k, m k ≠ .none → M (rn i j k) ≠ .none) : ∀ {l : List S}, S.wfs m l → S.wfs M (S.renl i j l)
  | [], _ => by simp only [S.renl, S.wfs]
  | x :: l, h => by simp only [S.renl, S.wfs] at h ⊢; exact ⟨S.wf.ren hM h.1, S.wfs.ren hM h.2⟩
end
end
def renM (i j : Nat) (m : Nat → B) : Nat → B := fun k => if k = j then (m i).ren i j else if k = i then .none else (m k).ren i j
theorem renM_at {m : Nat → B} {i j k : Nat} (h : k ≠ j) : renM i j m (rn i j k) = (m k).ren i j := by
  unfold rn renM
  split
  · rename_i e; subst e; rw [if_pos rfl]
  · rename_i e; simp [h, e]
theorem ren_none {i j : Nat} {x : B} : x.ren i j = .none ↔ x = .none := by
  cases x <;> simp [B.ren]
theorem ren_live {i j : Nat} {x : B} : (x.ren i j).live ↔ x.live := by
  cases x <;> simp [B.ren, B.live]
/-- The number i is called j from here on. -/
theorem Le.ren {s : St} {i j : Nat} (hij : i ≠ j) (hj : s.m j = .none) (n : Nat) : Le s { n := s.n, t := fun k => (s.t k).ren i j, m := renM i j s.m, nx := n } := fun w0 a w G hi => by
  have hM : ∀ k, s.m k ≠ .none → renM i j s.m (rn i j k) ≠ .none := fun k h => by
    rw [renM_at (ren_ne hj h)]
    exact fun e => h (ren_none.1 e)
  have hB : ∀ k, k ≠ j → InvB w0 w (renG i j G) (renM i j s.m) (rn i j k) ((s.m k).ren i j) := fun k hk => by
    have h := hi.mem k
    have hF : (renG i j G).F (rn i j k) = G.F k := ren_at hk
    have hbx : (renG i j G).bx (rn i j k) = G.bx k := ren_at hk
    have htv : (renG i j G).tv (rn i j k) = G.tv k := ren_at hk
    have hov : (renG i j G).ov (rn i j k) = G.ov k := ren_at hk
    have htl : (renG i j G).tl (rn i j k) = G.tl k := ren_at hk
    have hKK : (renG i j G).K = G.K := rfl
    revert h
    generalize s.m k = x
    intro h
    cases x with
    | none => trivial
    | dead => trivial
    | box cells =>
      simp only [B.ren, InvB] at h ⊢
      rw [hF, hbx, hKK]
      obtain ⟨a1, a2, a3, a4, cs, el, a5, a6, a7⟩ := h
      exact ⟨a1, a2, a3, S.wfs.ren hj hM a4, cs, el, a5, RdSs.ren hj a4 a6, a7⟩
    | tip deep e n es => simp only [B.ren, InvB] at h ⊢; rw [hF, htv, htl, hKK]; exact h
    | tok x => simp only [B.ren, InvB] at h ⊢; rw [hF, hov, hKK]; exact h
    | arr deep e n es => simp only [B.ren, InvB] at h ⊢; rw [hF, hov, hbx, hKK]; exact h
  have hinv : ∀ k, k ≠ i → k ≠ j → rn i j k = k := fun k h1 h2 => by unfold rn; rw [if_neg h1]
  have hii : rn i j i = j := by unfold rn; rw [if_pos rfl]
  refine ⟨renG i j G, hi.below, hi.defers, hi.size, fun t ht => ⟨RdS.ren hj (hi.slots t ht).2 (hi.slots t ht).1, S.wf.ren hj hM (hi.slots t ht).2⟩, hi.kold, hi.kin, fun k => ?_, fun k l hkl hk hl => ?_⟩
  · by_cases h1 : k = j
    · subst h1
      have := hB i hij
      rw [hii] at this
      show InvB w0 w _ _ k (renM i k s.m k)
      unfold renM
      rw [if_pos rfl]
      exact this
    · by_cases h2 : k = i
      · subst h2
        show InvB w0 w _ _ k (renM k j s.m k)
        unfold renM
        rw [if_neg hij, if_pos rfl]
        trivial
      · have := hB k h1
        rw [hinv k h2 h1] at this
        show InvB w0 w _ _ k (renM i j s.m k)
        unfold renM
        rw [if_neg h1, if_neg h2]
        exact this
  · have back : ∀ k, (renM i j s.m k).live → ∃ k', k' ≠ j ∧ rn i j k' = k ∧ (s.m k').live ∧ (renG i j G).F k = G.F k' := fun k h => by
      unfold renM at h
      split at h
      · rename_i e; subst e
        exact ⟨i, hij, hii, ren_live.1 h, upd_same _ _ _⟩
      · rename_i e1
        split at h
        · exact h.elim
        · rename_i e2
          exact ⟨k, e1, hinv k e2 e1, ren_live.1 h, upd_ne _ _ _ e1⟩
    obtain ⟨k', h1, h2, h3, h4⟩ := back k hk
    obtain ⟨l', h5, h6, h7, h8⟩ := back l hl
    rw [h4, h8]
    exact hi.disj k' l' (fun e => hkl (by rw [← h2, ← h6, e])) h3 h7
/-- The same, said of a state by what it holds. -/
theorem LeTo.ren {s : St} {L L' : List (Nat × S)} {M M' : List (Nat × B)} {n nx nx' i j : Nat} (hij : i ≠ j) (h : Le s (mkS n L M nx)) (hj : updl (fun _ => B.none) M j = .none)
    (hL : updl (fun _ => S.u) L' = fun k => (updl (fun _ => S.u) L k).ren i j) (hM : updl (fun _ => B.none) M' = renM i j (updl (fun _ => B.none) M)) : @LeTo s ⟨mkS n L' M' nx'⟩ := by
  have h2 := Le.ren (s := mkS n L M nx) hij hj nx'
  refine Le.trans h ?_
  have e : mkS n L' M' nx' = { n := (mkS n L M nx).n, t := fun k => ((mkS n L M nx).t k).ren i j, m := renM i j (mkS n L M nx).m, nx := nx' } := by
    show St.mk _ _ _ _ = St.mk _ _ _ _
    rw [hL, hM]
    rfl
  show Le _ (mkS n L' M' nx')
  rw [e]
  exact h2
theorem renL_nil {i j : Nat} : (fun _ : Nat => S.u) = fun k => ((fun _ : Nat => S.u) k).ren i j := by funext k; simp only [S.ren]
theorem renL_cons {i j : Nat} {f g : Nat → S} {t : Nat} {x : S} (h : f = fun k => (g k).ren i j) : upd f t (x.ren i j) = fun k => (upd g t x k).ren i j := by
  funext k
  by_cases e : k = t
  · subst e; rw [upd_same, upd_same]
  · rw [upd_ne _ _ _ e, upd_ne _ _ _ e, h]
theorem renM_nil {i j : Nat} : (fun _ : Nat => B.none) = renM i j (fun _ => .none) := by
  funext k
  unfold renM
  split
  · rfl
  · split <;> rfl
theorem renM_cons {i j : Nat} {f g : Nat → B} {t : Nat} {x : B} (hij : i ≠ j) (ht : t ≠ j) (h : f = renM i j g) : upd f (rn i j t) (x.ren i j) = renM i j (upd g t x) := by
  funext k
  rw [h]
  unfold rn renM
  by_cases h1 : t = i
  · subst h1
    rw [if_pos rfl]
    by_cases h2 : k = j
    · subst h2; rw [upd_same, if_pos rfl, upd_same]
    · rw [upd_ne _ _ _ h2, if_neg h2, if_neg h2]
      by_cases h3 : k = t
      · rw [if_pos h3, if_pos h3]
      · rw [if_neg h3, if_neg h3, upd_ne _ _ _ h3]
  · rw [if_neg h1]
    by_cases h2 : k = t
    · subst h2
      rw [upd_same, if_neg ht, if_neg h1, upd_same]
    · rw [upd_ne _ _ _ h2, upd_ne _ _ _ h2]
      by_cases h3 : k = j
      · rw [if_pos h3, if_pos h3, upd_ne _ _ _ (fun e => h1 e.symm)]
      · rw [if_neg h3, if_neg h3]
end Go.Proofs.Ytknnnebjjjldpab.Ab

