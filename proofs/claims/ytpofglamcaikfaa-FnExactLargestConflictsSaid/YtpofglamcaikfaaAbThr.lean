/- AbThr: AbRen AbFrz AbTup. -/
import Derived.Test.YtpofglamcaikfaaAbTwo
import Derived.Test.YtpofglamcaikfaaAbBr
/- A number of the frame's own memory is given another name. -/
namespace Go.Proofs.Ytpofglamcaikfaa.Ab
open Go.RowKit
set_option linter.unusedSimpArgs false
set_option linter.unusedSectionVars false
set_option linter.unusedVariables false
set_option maxRecDepth 100000
def rn (i j k : Nat) : Nat := if k = i then j else k
mutual
def S.ren (i j : Nat) : S → S
  | .u => .u
  | .d x => .d x
  | .a l => .a (S.renl i j l)
  | .t l => .t (S.renl i j l)
  | .p k z => .p (rn i j k) z
  | .e l z => .e l z
  | .g k es => .g (rn i j k) es
  | .o k x => .o (rn i j k) x
  | .f fn x y => .f fn (S.renl i j x) (S.renl i j y)
  | .m k => .m (rn i j k)
  | .q k n y z => .q (rn i j k) n y z
def S.renl (i j : Nat) : List S → List S
  | [] => []
  | s :: l => S.ren i j s :: S.renl i j l
end
def B.ren (i j : Nat) : B → B
  | .box l => .box (S.renl i j l)
  | x => x
/-- Numbers that a caller asks to stay are not given other names. -/
def B.frOk (i j k : Nat) : B → Bool
  | .frm ids => decide (k ≠ i) && (ids.all fun q => decide (q ≠ i) && decide (q ≠ j))
  | _ => true
theorem frOk_updl {i j : Nat} : ∀ {M : List (Nat × B)}, (M.all fun p => B.frOk i j p.1 p.2) = true → ∀ k, B.frOk i j k (updl (fun _ => B.none) M k) = true
  | [], _, k => rfl
  | p :: M, h, k => by
    simp only [List.all_cons, Bool.and_eq_true] at h
    simp only [updl]
    by_cases e : k = p.1
    · subst e; rw [upd_same]; exact h.1
    · rw [upd_ne _ _ _ e]; exact frOk_updl h.2 k
def renG (i j : Nat) (G : Gh) : Gh := { K := G.K, F := upd G.F j (G.F i), bx := upd G.bx j (G.bx i), tv := upd G.tv j (G.tv i), ov := upd G.ov j (G.ov i), tl := upd G.tl j (G.tl i) }
theorem ren_at {α : Type} {f : Nat → α} {i j k : Nat} (h : k ≠ j) : upd f j (f i) (rn i j k) = f k := by
  unfold rn
  split
  · rename_i e; subst e; exact upd_same _ _ _
  · exact upd_ne _ _ _ h
section
variable {w : World} {G : Gh} {m : Nat → B} {i j : Nat} (hj : m j = .none)
include hj
theorem ren_ne {k : Nat} (h : m k ≠ .none) : k ≠ j := fun e => h (e ▸ hj)
mutual
theorem RdS.ren : ∀ {x : S} {c : Value}, x.wf m → RdS w G x c → RdS w (renG i j G) (x.ren i j) c
  | .u, c, _, _ => by simp only [S.ren, RdS]
  | .d x, c, _, h => by simp only [S.ren, RdS] at h ⊢; exact h
  | .a l, c, hw, h => by
    simp only [S.wf] at hw
    simp only [S.ren, RdS] at h ⊢
    obtain ⟨cs, h1, h2, h3⟩ := h
    exact ⟨cs, h1, RdSs.ren hw h2, h3⟩
  | .t l, c, hw, h => by
    simp only [S.wf] at hw
    simp only [S.ren, RdS] at h ⊢
    obtain ⟨cs, h1, h2⟩ := h
    exact ⟨cs, h1, RdSs.ren hw h2⟩
  | .p k z, c, hw, h => by
    simp only [S.wf] at hw
    simp only [S.ren, RdS, renG, ren_at (ren_ne hj hw)] at h ⊢
    exact h
  | .e l z, c, _, h => by simp only [S.ren, RdS] at h ⊢; exact h
  | .g k es, c, hw, h => by
    simp only [S.wf] at hw
    simp only [S.ren, RdS, renG, ren_at (ren_ne hj hw)] at h ⊢
    exact h
  | .o k x, c, hw, h => by
    simp only [S.wf] at hw
    simp only [S.ren, RdS, renG, ren_at (ren_ne hj hw)] at h ⊢
    exact h
  | .f fn x y, c, hw, h => by
    simp only [S.wf] at hw
    simp only [S.ren, RdS] at h ⊢
    obtain ⟨u, v, h1, h2, h3⟩ := h
    exact ⟨u, v, h1, RdSs.ren hw.1 h2, RdSs.ren hw.2 h3⟩
  | .m k, c, hw, h => by
    simp only [S.wf] at hw
    simp only [S.ren, RdS, renG, ren_at (ren_ne hj hw)] at h ⊢
    exact h
  | .q k n y z, c, hw, h => by
    simp only [S.wf] at hw
    simp only [S.ren, RdS, renG, ren_at (ren_ne hj hw)] at h ⊢
    exact h
theorem RdSs.ren : ∀ {l : List S} {cs : List Value}, S.wfs m l → RdSs w G l cs → RdSs w (renG i j G) (S.renl i j l) cs
  | [], cs, _, h => by simpa only [S.renl, RdSs] using h
  | x :: l, cs, hw, h => by
    simp only [S.wfs] at hw
    simp only [S.renl, RdSs] at h ⊢
    obtain ⟨c, c2, h1, h2, h3⟩ := h
    exact ⟨c, c2, h1, RdS.ren hw.1 h2, RdSs.ren hw.2 h3⟩
end
mutual
theorem S.wf.ren {M : Nat → B} (hM : ∀ k, m k ≠ .none → M (rn i j k) ≠ .none) : ∀ {x : S}, x.wf m → (x.ren i j).wf M
  | .u, _ => by simp only [S.ren, S.wf]
  | .d x, _ => by simp only [S.ren, S.wf]
  | .a l, h => by simp only [S.ren, S.wf] at h ⊢; exact S.wfs.ren hM h
  | .t l, h => by simp only [S.ren, S.wf] at h ⊢; exact S.wfs.ren hM h
  | .p k z, h => by simp only [S.ren, S.wf] at h ⊢; exact hM _ h
  | .e l z, _ => by simp only [S.ren, S.wf]
  | .g k es, h => by simp only [S.ren, S.wf] at h ⊢; exact hM _ h
  | .o k x, h => by simp only [S.ren, S.wf] at h ⊢; exact hM _ h
  | .f fn x y, h => by simp only [S.ren, S.wf] at h ⊢; exact ⟨S.wfs.ren hM h.1, S.wfs.ren hM h.2⟩
  | .m k, h => by simp only [S.ren, S.wf] at h ⊢; exact hM _ h
  | .q k n y z, h => by simp only [S.ren, S.wf] at h ⊢; exact hM _ h
theorem S.wfs.ren {M : Nat → B} (hM : ∀ k, m k ≠ .none → M (rn i j k) ≠ .none) : ∀ {l : List S}, S.wfs m l → S.wfs M (S.renl i j l)
  | [], _ => by simp only [S.renl, S.wfs]
  | x :: l, h => by simp only [S.renl, S.wfs] at h ⊢; exact ⟨S.wf.ren hM h.1, S.wfs.ren hM h.2⟩
end
end
def renM (i j : Nat) (m : Nat → B) : Nat → B := fun k => if k = j then (m i).ren i j else if k = i then .none else (m k).ren i j
theorem renM_at {m : Nat → B} {i j k : Nat} (h : k ≠ j) : renM i j m (rn i j k) = (m k).ren i j := by
  unfold rn renM
  split
  · rename_i e; subst e; rw [if_pos rfl]
  · rename_i e; simp [h, e]
theorem ren_none {i j : Nat} {x : B} : x.ren i j = .none ↔ x = .none := by
  cases x <;> simp [B.ren]
theorem ren_live {i j : Nat} {x : B} : (x.ren i j).live ↔ x.live := by
  cases x <;> simp [B.ren, B.live]
/-- The number i is called j from here on. -/
theorem Le.ren {s : St} {i j : Nat} (hij : i ≠ j) (hj : s.m j = .none) (n : Nat) (hfr : ∀ k, B.frOk i j k (s.m k) = true) : Le s { n := s.n, t := fun k => (s.t k).ren i j, m := renM i j s.m, nx := n } := fun w0 a w G hi => by
  have hM : ∀ k, s.m k ≠ .none → renM i j s.m (rn i j k) ≠ .none := fun k h => by
    rw [renM_at (ren_ne hj h)]
    exact fun e => h (ren_none.1 e)
  have hB : ∀ k, k ≠ j → InvB w0 w (renG i j G) (renM i j s.m) (rn i j k) ((s.m k).ren i j) := fun k hk => by
    have h := hi.mem k
    have hF : (renG i j G).F (rn i j k) = G.F k := ren_at hk
    have hbx : (renG i j G).bx (rn i j k) = G.bx k := ren_at hk
    have htv : (renG i j G).tv (rn i j k) = G.tv k := ren_at hk
    have hov : (renG i j G).ov (rn i j k) = G.ov k := ren_at hk
    have htl : (renG i j G).tl (rn i j k) = G.tl k := ren_at hk
    have hKK : (renG i j G).K = G.K := rfl
    have hfk := hfr k
    revert h hfk
    generalize s.m k = x
    intro h hfk
    cases x with
    | none => trivial
    | dead => trivial
    | box cells =>
      simp only [B.ren, InvB] at h ⊢
      rw [hF, hbx, hKK]
      obtain ⟨a1, a2, a3, a4, cs, el, a5, a6, a7⟩ := h
      exact ⟨a1, a2, a3, S.wfs.ren hj hM a4, cs, el, a5, RdSs.ren hj a4 a6, a7⟩
    | frm ids =>
      simp only [B.frOk, Bool.and_eq_true, decide_eq_true_eq, List.all_eq_true] at hfk
      simp only [B.ren, InvB] at h ⊢
      obtain ⟨a1, a2, a3, a4, a5⟩ := h
      refine ⟨by rw [hF]; exact a1, a2, a3, a4, fun q hq => ?_⟩
      obtain ⟨b1, b2⟩ := hfk.2 q hq
      obtain ⟨c1, c2, c3, c4⟩ := a5 q hq
      have hq' : rn i j q = q := by unfold rn; rw [if_neg b1]
      have e1 : (renG i j G).bx q = G.bx q := upd_ne _ _ _ b2
      have e2 : (renG i j G).ov q = G.ov q := upd_ne _ _ _ b2
      have e3 : (renG i j G).tl q = G.tl q := upd_ne _ _ _ b2
      have e4 : (renG i j G).tv q = G.tv q := upd_ne _ _ _ b2
      have := hM q c1
      rw [hq'] at this
      exact ⟨this, by rw [e1]; exact c2, by rw [e2]; exact c3, by rw [e3, e4]; exact c4⟩
    | tip deep e n es => simp only [B.ren, InvB] at h ⊢; rw [hF, htv, htl, hKK]; exact h
    | tok x => simp only [B.ren, InvB] at h ⊢; rw [hF, hov, hKK]; exact h
    | arr deep e n es => simp only [B.ren, InvB] at h ⊢; rw [hF, hov, hbx, hKK]; exact h
  have hinv : ∀ k, k ≠ i → k ≠ j → rn i j k = k := fun k h1 h2 => by unfold rn; rw [if_neg h1]
  have hii : rn i j i = j := by unfold rn; rw [if_pos rfl]
  refine ⟨renG i j G, hi.below, hi.defers, hi.size, fun t ht => ⟨RdS.ren hj (hi.slots t ht).2 (hi.slots t ht).1, S.wf.ren hj hM (hi.slots t ht).2⟩, hi.kold, hi.kin, fun k => ?_, fun k l hkl hk hl => ?_⟩
  · by_cases h1 : k = j
    · subst h1
      have := hB i hij
      rw [hii] at this
      show InvB w0 w _ _ k (renM i k s.m k)
      unfold renM
      rw [if_pos rfl]
      exact this
    · by_cases h2 : k = i
      · subst h2
        show InvB w0 w _ _ k (renM k j s.m k)
        unfold renM
        rw [if_neg hij, if_pos rfl]
        trivial
      · have := hB k h1
        rw [hinv k h2 h1] at this
        show InvB w0 w _ _ k (renM i j s.m k)
        unfold renM
        rw [if_neg h1, if_neg h2]
        exact this
  · have back : ∀ k, (renM i j s.m k).live → ∃ k', k' ≠ j ∧ rn i j k' = k ∧ (s.m k').live ∧ (renG i j G).F k = G.F k' := fun k h => by
      unfold renM at h
      split at h
      · rename_i e; subst e
        exact ⟨i, hij, hii, ren_live.1 h, upd_same _ _ _⟩
      · rename_i e1
        split at h
        · exact h.elim
        · rename_i e2
          exact ⟨k, e1, hinv k e2 e1, ren_live.1 h, upd_ne _ _ _ e1⟩
    obtain ⟨k', h1, h2, h3, h4⟩ := back k hk
    obtain ⟨l', h5, h6, h7, h8⟩ := back l hl
    rw [h4, h8]
    exact hi.disj k' l' (fun e => hkl (by rw [← h2, ← h6, e])) h3 h7
/-- The same, said of a state by what it holds. -/
theorem LeTo.ren {s : St} {L L' : List (Nat × S)} {M M' : List (Nat × B)} {n nx nx' i j : Nat} (hij : i ≠ j) (h : Le s (mkS n L M nx)) (hj : updl (fun _ => B.none) M j = .none)
    (hL : updl (fun _ => S.u) L' = fun k => (updl (fun _ => S.u) L k).ren i j) (hM : updl (fun _ => B.none) M' = renM i j (updl (fun _ => B.none) M)) (hfr : (M.all fun p => B.frOk i j p.1 p.2) = true := by rfl) : @LeTo s ⟨mkS n L' M' nx'⟩ := by
  have h2 := Le.ren (s := mkS n L M nx) hij hj nx' (frOk_updl hfr)
  refine Le.trans h ?_
  have e : mkS n L' M' nx' = { n := (mkS n L M nx).n, t := fun k => ((mkS n L M nx).t k).ren i j, m := renM i j (mkS n L M nx).m, nx := nx' } := by
    show St.mk _ _ _ _ = St.mk _ _ _ _
    rw [hL, hM]
    rfl
  show Le _ (mkS n L' M' nx')
  rw [e]
  exact h2
theorem renL_nil {i j : Nat} : (fun _ : Nat => S.u) = fun k => ((fun _ : Nat => S.u) k).ren i j := by funext k; simp only [S.ren]
theorem renL_cons {i j : Nat} {f g : Nat → S} {t : Nat} {x : S} (h : f = fun k => (g k).ren i j) : upd f t (x.ren i j) = fun k => (upd g t x k).ren i j := by
  funext k
  by_cases e : k = t
  · subst e; rw [upd_same, upd_same]
  · rw [upd_ne _ _ _ e, upd_ne _ _ _ e, h]
theorem renM_nil {i j : Nat} : (fun _ : Nat => B.none) = renM i j (fun _ => .none) := by
  funext k
  unfold renM
  split
  · rfl
  · split <;> rfl
theorem renM_cons {i j : Nat} {f g : Nat → B} {t : Nat} {x : B} (hij : i ≠ j) (ht : t ≠ j) (h : f = renM i j g) : upd f (rn i j t) (x.ren i j) = renM i j (upd g t x) := by
  funext k
  rw [h]
  unfold rn renM
  by_cases h1 : t = i
  · subst h1
    rw [if_pos rfl]
    by_cases h2 : k = j
    · subst h2; rw [upd_same, if_pos rfl, upd_same]
    · rw [upd_ne _ _ _ h2, if_neg h2, if_neg h2]
      by_cases h3 : k = t
      · rw [if_pos h3, if_pos h3]
      · rw [if_neg h3, if_neg h3, upd_ne _ _ _ h3]
  · rw [if_neg h1]
    by_cases h2 : k = t
    · subst h2
      rw [upd_same, if_neg ht, if_neg h1, upd_same]
    · rw [upd_ne _ _ _ h2, upd_ne _ _ _ h2]
      by_cases h3 : k = j
      · rw [if_pos h3, if_pos h3, upd_ne _ _ _ (fun e => h1 e.symm)]
      · rw [if_neg h3, if_neg h3]
/-- The same by the lists. -/
theorem LeTo.renm {s : St} {L L' : List (Nat × S)} {M M' : List (Nat × B)} {n nx nx' : Nat} (i j : Nat) (L0 : List (Nat × S)) (M0 : List (Nat × B)) (eL : L = L0) (eM : M = M0) (hij : i ≠ j) (hne : (M.all fun p => decide (p.1 ≠ j)) = true) (hL : L' = L.map fun p => (p.1, p.2.ren i j)) (hM : M' = M.map fun p => (rn i j p.1, p.2.ren i j)) (h : Le s (mkS n L M nx)) (hfr : (M.all fun p => B.frOk i j p.1 p.2) = true := by rfl) : @LeTo s ⟨mkS n L' M' nx'⟩ := by
  subst eL eM
  have h1 : ∀ M : List (Nat × B), (M.all fun p => decide (p.1 ≠ j)) = true → updl (fun _ => B.none) M j = .none := by
    intro M
    induction M with
    | nil => exact fun _ => rfl
    | cons p M ih =>
      intro h
      simp only [List.all_cons, Bool.and_eq_true, decide_eq_true_eq] at h
      simp only [updl]
      rw [upd_ne _ _ _ (fun e => h.1 e.symm)]
      exact ih h.2
  have h2 : ∀ L : List (Nat × S), updl (fun _ => S.u) (L.map fun p => (p.1, p.2.ren i j)) = fun k => (updl (fun _ => S.u) L k).ren i j := by
    intro L
    induction L with
    | nil => exact renL_nil
    | cons p L ih => exact renL_cons ih
  have h3 : ∀ M : List (Nat × B), (M.all fun p => decide (p.1 ≠ j)) = true → updl (fun _ => B.none) (M.map fun p => (rn i j p.1, p.2.ren i j)) = renM i j (updl (fun _ => B.none) M) := by
    intro M
    induction M with
    | nil => exact fun _ => renM_nil
    | cons p M ih =>
      intro h
      simp only [List.all_cons, Bool.and_eq_true, decide_eq_true_eq] at h
      exact renM_cons hij h.1 (ih h.2)
  exact LeTo.ren hij h (h1 M hne) (by rw [hL]; exact h2 L) (by rw [hM]; exact h3 M hne) hfr
end Go.Proofs.Ytpofglamcaikfaa.Ab

/- A variable that will not be written again: from here on it is only read. -/
namespace Go.Proofs.Ytpofglamcaikfaa.Ab
open Go.RowKit
set_option linter.unusedSimpArgs false
set_option linter.unusedVariables false
set_option maxRecDepth 100000
theorem Le.freeze {s : St} {id t : Nat} {ds : List D} (hm : s.m id = .box (ds.map S.d)) (ht : s.t t = .p id 0) : Le s { s with t := upd s.t t (.e ds 0), m := upd s.m id .dead } := fun w0 a w G hi => by
  have hbx := hi.mem id
  rw [hm] at hbx
  simp only [InvB] at hbx
  obtain ⟨hF, hge, hnK, hwf, cs, elem, hheap, hrd, hone⟩ := hbx
  have hlt : G.bx id < w.heap.size := (Array.getElem?_eq_some_iff.1 hheap).1
  let G' : Gh := { G with K := fun b o => G.K b o ∨ b = G.bx id }
  have hk : Keep s.m w G w G' := ⟨fun b o h => ⟨.inl h, rfl⟩, fun _ _ => rfl, fun _ _ => rfl, fun _ _ => .inl ⟨rfl, rfl⟩⟩
  have hmm : ∀ j, s.m j ≠ .none → upd s.m id .dead j ≠ .none := fun j h => by
    by_cases hj : j = id
    · subst hj; rw [upd_same]; exact fun h => by cases h
    · rw [upd_ne _ _ _ hj]; exact h
  have other : ∀ j, j ≠ id → (s.m j).live → ∀ k, k ∈ G.F j → ∀ o, G'.K k o ↔ G.K k o := by
    intro j hj hl k hk' o
    constructor
    · rintro (h | rfl)
      · exact h
      · exact absurd (by rw [hF]; simp) (hi.disj j id hj hl (by rw [hm]; trivial) _ hk')
    · exact .inl
  have live : ∀ i, (upd s.m id .dead i).live → i ≠ id ∧ (s.m i).live := fun i h => by
    by_cases hj : i = id
    · subst hj; rw [upd_same] at h; exact h.elim
    · rw [upd_ne _ _ _ hj] at h; exact ⟨hj, h⟩
  refine ⟨G', hi.below, hi.defers, hi.size, fun i hi' => ?_, fun b o hb => ?_, fun b o h => ?_, fun j => ?_, fun i j hij hl hl' => hi.disj i j hij (live i hl).2 (live j hl').2⟩
  · have h1 := hi.slots i hi'
    by_cases hit : i = t
    · subst hit
      simp only [upd_same]
      rw [ht] at h1
      have h2 := h1.1
      simp only [RdS] at h2
      refine ⟨?_, by simp only [S.wf]⟩
      simp only [RdS]
      refine ⟨G.bx id, 0, cs.toList, by rw [Nat.zero_add]; exact h2, (rdC_map hrd).keep (fun b o hb => ⟨.inl hb, rfl⟩), fun i c hc => ⟨?_, .inr rfl⟩⟩
      rw [Nat.zero_add, cell_of_row w (G.bx id) i cs elem (0, 0) hheap]
      simpa using hc
    · simp only [upd_ne _ _ _ hit]
      exact ⟨h1.1.keep hk h1.2, h1.2.mono hmm⟩
  · rw [← hi.kold b o hb]
    constructor
    · rintro (h | rfl)
      · exact h
      · omega
    · exact .inl
  · rcases h with h | rfl
    · exact hi.kin b o h
    · exact hlt
  · by_cases hj : j = id
    · subst hj; simp only [upd_same]; trivial
    · simp only [upd_ne _ _ _ hj]
      have h1 := hi.mem j
      have h2 := other j hj
      have h3 : s.m j ≠ .none → InvB w0 w G' (upd s.m id .dead) j (s.m j) := fun hid => by
        by_cases hl : (s.m j).live
        · exact InvB.keep hk hmm hid (fun k hk' => ⟨rfl, h2 hl k hk'⟩) rfl ⟨rfl, rfl⟩ (Nat.le_refl _) h1
        · cases hx : s.m j <;> rw [hx] at hl <;> first | trivial | exact absurd trivial hl
      by_cases hid : s.m j = .none
      · rw [hid]; trivial
      · exact h3 hid
/-- A slice without elements is one's own. -/
theorem Le.empty {s : St} {id t : Nat} (hm : s.m id = .none) (htn : t < s.n) (ht : (s.t t).toD = some (.sl [])) : Le s { s with t := upd s.t t (.o id (.sl [])), m := upd s.m id (.tok (.sl [])) } := fun w0 a w G hi => by
  have hr := toD_rd ht (hi.slots t htn).1
  obtain ⟨a', cap, n, cs, hc, _⟩ := hr.open
  let G' : Gh := { G with F := upd G.F id [], ov := upd G.ov id (a.tmps.getD t undef) }
  have hne : ∀ j, s.m j ≠ .none → j ≠ id := fun j h e => h (e ▸ hm)
  have hk : Keep s.m w G w G' := ⟨fun b o h => ⟨h, rfl⟩, fun _ _ => rfl, fun j h => upd_ne _ _ _ (hne j h), fun _ _ => .inl ⟨rfl, rfl⟩⟩
  have hmm : ∀ j, s.m j ≠ .none → upd s.m id (.tok (.sl [])) j ≠ .none := fun j h => by rw [upd_ne _ _ _ (hne j h)]; exact h
  have live : ∀ i, i ≠ id → (upd s.m id (.tok (.sl [])) i).live → (s.m i).live := fun i h hl => by rwa [upd_ne _ _ _ h] at hl
  refine ⟨G', hi.below, hi.defers, hi.size, fun i hi' => ?_, hi.kold, hi.kin, fun j => ?_, fun i j hij hl hl' => ?_⟩
  · by_cases hit : i = t
    · subst hit
      simp only [upd_same]
      refine ⟨?_, by simp only [S.wf, upd_same]; exact fun h => by cases h⟩
      simp only [RdS]
      exact ⟨hr, by simp only [G', upd_same]⟩
    · simp only [upd_ne _ _ _ hit]
      exact ⟨(hi.slots i hi').1.keep hk (hi.slots i hi').2, (hi.slots i hi').2.mono hmm⟩
  · by_cases hj : j = id
    · subst hj
      simp only [upd_same, InvB, G']
      refine ⟨?_, by simp⟩
      rw [hc]
      simp only [OwnD]
      exact ⟨a', cap, n, [], rfl, by simp, by simp [maxLen], .inl (by simp)⟩
    · simp only [upd_ne _ _ _ hj]
      by_cases hid : s.m j = .none
      · rw [hid]; trivial
      · exact InvB.keep hk hmm hid (fun k _ => ⟨rfl, fun _ => Iff.rfl⟩) (upd_ne _ _ _ hj) ⟨rfl, rfl⟩ (Nat.le_refl _) (hi.mem j)
  · intro k hk1 hk2
    by_cases h1 : i = id
    · subst h1; simp only [G', upd_same] at hk1; cases hk1
    · by_cases h2 : j = id
      · subst h2; simp only [G', upd_same] at hk2; cases hk2
      · simp only [G', upd_ne _ _ _ h1, upd_ne _ _ _ h2] at hk1 hk2
        exact hi.disj i j hij (live i h1 hl) (live j h2 hl') k hk1 hk2
end Go.Proofs.Ytpofglamcaikfaa.Ab

/- Answers of two parts, the first the call's own. -/
namespace Go.Proofs.Ytpofglamcaikfaa.Ab
open Go.RowKit
set_option linter.unusedSimpArgs false
set_option linter.unusedVariables false
set_option maxRecDepth 100000
theorem RdV.o2 {α : Type} {c : Cod α} {p : Enc c} {x : α} {d : D} {k : Nat} {y v : Value} {w w' : World} {K : Nat → Nat → Prop} (hd : p.e x = [d]) (g : p.good x) (h : RdV w K w' (.t [.o k d, .d (.v y)]) v) : ∃ u, v = .tuple #[u, y] ∧ Own c w.heap.size w' x [u] := by
  obtain ⟨F, ov, h1, h2, h3⟩ := h
  simp only [RdS, RdSs, RdD] at h1
  obtain ⟨cs, rfl, u, c2, rfl, hu, u2, c4, rfl, ⟨rfl, _⟩, rfl⟩ := h1
  refine ⟨u, rfl, p.own1 (K := K) (k := k) hd g ⟨F, ov, ?_, fun q hq => h2 q ?_, fun q r hq hr => h3 q r ?_ ?_⟩⟩
  · simp only [RdS]; exact hu
  · simpa [S.os, S.oss] using hq
  · simpa [S.os, S.oss] using hq
  · simpa [S.os, S.oss] using hr
theorem RdV.a2 {α : Type} {c : Cod α} {p : Enc c} {x : α} {l : List S} {y v : Value} {w w' : World} {K : Nat → Nat → Prop} (hd : Parts l (p.e x)) (g : p.good x) (hn : ((S.oss l).map (·.1)).Nodup) (h : RdV w K w' (.t [.a l, .d (.v y)]) v) : ∃ cs : List Value, v = .tuple #[.agg cs.toArray, y] ∧ Own c w.heap.size w' x cs := by
  obtain ⟨F, ov, h1, h2, h3⟩ := h
  simp only [RdS, RdSs, RdD] at h1
  obtain ⟨cs, rfl, u, c2, rfl, hu, u2, c4, rfl, ⟨rfl, _⟩, rfl⟩ := h1
  obtain ⟨es, rfl, ho⟩ := p.ownA (K := K) (v := u) hd g hn ⟨F, ov, by simp only [RdS]; exact hu, fun q hq => h2 q (by simpa [S.os, S.oss] using hq), fun q r hq hr => h3 q r (by simpa [S.os, S.oss] using hq) (by simpa [S.os, S.oss] using hr)⟩
  exact ⟨es, rfl, ho⟩
theorem RdV.t3 {w w' : World} {K : Nat → Nat → Prop} {x y z v : Value} (h : RdV w K w' (.t [.d (.v x), .d (.v y), .d (.v z)]) v) : v = .tuple #[x, y, z] := by
  obtain ⟨F, ov, h1, _⟩ := h
  simp only [RdS, RdSs, RdD] at h1
  obtain ⟨cs, rfl, c1, c2, rfl, ⟨rfl, _⟩, c3, c4, rfl, ⟨rfl, _⟩, c5, c6, rfl, ⟨rfl, _⟩, rfl⟩ := h1
  rfl
end Go.Proofs.Ytpofglamcaikfaa.Ab

