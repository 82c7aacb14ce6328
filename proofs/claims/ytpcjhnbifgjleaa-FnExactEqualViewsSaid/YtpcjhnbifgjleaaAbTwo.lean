/- AbTwo: AbQ AbR AbS AbAw AbT AbU AbV AbW AbX AbY AbZ AbLoop AbWi. -/
import Derived.Test.YtpcjhnbifgjleaaAbOne
import Derived.Still
/- Append. -/
namespace Go.Proofs.Ytpcjhnbifgjleaa.Ab
set_option linter.unusedSectionVars false
set_option linter.unusedSimpArgs false
set_option linter.constructorNameAsVariable false
open Go.RowKit
set_option linter.unusedVariables false
set_option maxRecDepth 100000
set_option linter.unusedSectionVars false

section
variable {P : Program} {w0 : Base} {w w' : World} {G G' : Gh} {s : St} {a : Act} {o : Oper} {K : Act → World → Prop} {Q : Exit → Act → World → Prop}
/-- A growing slice of the call's own, opened. -/
theorem Inv.tipO (hi : Inv w0 s a w G) {j n : Nat} {deep : Bool} {e : TypeId} {es : List (List D)} (hj : s.m j = .tip deep e n es) :
    G.tl j = es.length ∧ 0 < n ∧ ∃ xs F', w.ownsRow w0.heap.size e n (G.tv j) es.length xs ∧ RdE w G.K n es xs ∧ G.F j = (G.tv j).ownBlock.toList ++ F' ∧
      (∀ g, (G.tv j).ownBlock = some g → g ∉ F' ∧ ∀ o, G.K g o ↔ o < es.length * n) ∧ (∀ k, k ∈ F' → w0.heap.size ≤ k ∧ k < w.heap.size ∧ ∀ o, G.K k o) ∧ (deep = true → OwnE w n es F' xs) := by
  have h := hi.mem j
  rw [hj] at h
  simpa only [InvB] using h
/-- The same slice, less said of it; some data given up. -/
theorem Inv.tipSame (hi : Inv w0 s a w G) (dst : Option Tmp) {j n : Nat} {deep deep' : Bool} {e : TypeId} {es : List (List D)} {con : List Nat} (hj : s.m j = .tip deep e n es) (hd : deep' = true → deep = true) (hjc : j ∉ con) :
    Inv w0 { s.put dst (.g j es) with m := upds (upd s.m j (.tip deep' e n es)) (kill con) } (a.put dst (G.tv j)) w G := by
  obtain ⟨h1, h0, xs, F', h2, h3, h4, h5, h6, h7⟩ := hi.tipO hj
  have hm' : ∀ i, upds (upd s.m j (.tip deep' e n es)) (kill con) i = if i ∈ con then .dead else if i = j then .tip deep' e n es else s.m i := fun i => by
    rw [upds_kill]
    by_cases hi : i ∈ con
    · rw [if_pos hi, if_pos hi]
    · rw [if_neg hi, if_neg hi]; rfl
  have hm : ∀ i, s.m i ≠ .none → upds (upd s.m j (.tip deep' e n es)) (kill con) i ≠ .none := fun i h => by
    rw [hm']
    split
    · exact fun h => by cases h
    · split
      · exact fun h => by cases h
      · exact h
  have hl : ∀ i, (upds (upd s.m j (.tip deep' e n es)) (kill con) i).live → (s.m i).live := fun i h => by
    rw [hm'] at h
    split at h
    · exact h.elim
    · split at h
      · rename_i e; subst e; rw [hj]; trivial
      · exact h
  refine hi.step dst _ (Below.refl _ _) (fun _ _ _ => Iff.rfl) ⟨fun b o h => ⟨h, rfl⟩, fun _ _ => rfl, fun _ _ => rfl, fun _ _ => .inl ⟨rfl, rfl⟩⟩ hm hi.kin ?_ (fun i i' hii hl1 hl2 => hi.disj i i' hii (hl i hl1) (hl i' hl2)) ?_ ?_
  · intro i
    by_cases hic : i ∈ con
    · right
      rw [hm', if_pos hic]
      trivial
    · by_cases hij : i = j
      · subst hij
        right
        rw [hm', if_neg hic, if_pos rfl]
        simp only [InvB]
        exact ⟨h1, h0, xs, F', h2, h3, h4, h5, h6, fun h => h7 (hd h)⟩
      · left
        exact ⟨by rw [hm', if_neg hic, if_neg hij], fun _ => ⟨fun k _ => ⟨rfl, fun _ => Iff.rfl⟩, rfl, rfl, rfl⟩⟩
  · have hrow := h2
    simp only [RdS]
    refine ⟨?_, by omega, fun _ => trivial⟩
    rcases hrow.2 with ⟨e1, e2⟩ | ⟨g, cap, cur, e1, hbg, hgr, hnc, hcm, hcs, htake⟩
    · rw [e1]
      obtain rfl := List.eq_nil_of_length_eq_zero e2
      exact nil_rd
    · rw [e1]
      simp only [RdD]
      refine ⟨_, cap, n, xs, rfl, hnc, by omega, h3, .inr ⟨g, 0, rfl, fun i c hi' => ?_⟩⟩
      rw [Nat.zero_add]
      have hlt := (List.getElem?_eq_some_iff.1 hi').1
      have hx := hrow.1
      refine ⟨?_, ((h5 g (by rw [e1]; rfl)).2 i).2 (by omega)⟩
      rw [cell_of_row w g i cur e (0, 0) hgr]
      rw [← htake, List.getElem?_take] at hi'
      split at hi'
      · simpa using hi'
      · cases hi'
  · simp only [S.wf]
    rw [hm', if_neg hjc, if_pos rfl]
    exact fun h => by cases h
/-- What is to be appended: its elements, where they stand, and what they own. -/
structure Src (w : World) (G : Gh) (s : St) (n : Nat) (y : Value) (es : List (List D)) (deep : Bool) (con : List Nat) : Prop where
  live : ∀ c, c ∈ con → (s.m c).live
  news : ∃ A c xs F, y = .slice A es.length c ∧ RdE w G.K n es xs ∧ (es = [] ∨ ∃ b off, A = some ⟨b, off, none⟩ ∧ ∀ i u, xs[i]? = some u → w.cell? ⟨b, off + i, none⟩ = some u) ∧
    (∀ k, k ∈ F → ∃ c, c ∈ con ∧ k ∈ G.F c) ∧ (deep = true → OwnE w n es F xs)
/-- Appending to a growing slice. -/
theorem Inv.append (hi : Inv w0 s a w G) (dst : Option Tmp) {j n : Nat} {d1 d2 deep : Bool} {t ty e : TypeId} {ie : TypeInfo} {z : Value} {es es2 : List (List D)} {con : List Nat} {y : Value} (ht : P.underlying t = some (.slice e)) (hie : P.info? e = some ie) (hz : ie.zero = some z)
    (hz2 : z.cells.size = ie.size) (hs : ie.size = n) (hj : s.m j = .tip d1 e n es) (hy : Src w G s n y es2 d2 con) (hd : deep = true → d1 = true ∧ d2 = true) (hjc : j ∉ con) (h63 : es.length + es2.length ≤ maxLen) (hby : (es.length + es2.length) * ie.bytes ≤ 140737488355328) :
    ∃ v' w' G', (Builtin.append_ #[t, t] ty #[G.tv j, y]).run P w = .ok v' w' ∧ Inv w0 { s.put dst (.g j (es ++ es2)) with m := upds (upd s.m j (.tip deep e n (es ++ es2))) (kill con) } (a.put dst v') w' G' := by
  subst hs
  obtain ⟨hlive, A, c, news, F3, rfl, hn1, hn2, hn3, hn4⟩ := hy
  obtain ⟨h1, h0, xs, F', h2, h3, h4, h5, h6, h7⟩ := hi.tipO hj
  by_cases hm0 : es2.length = 0
  · obtain rfl := List.eq_nil_of_length_eq_zero hm0
    simp only [List.append_nil]
    exact ⟨_, w, G, app_zero ht hie h2 A c, hi.tipSame dst hj (fun h => (hd h).1) hjc⟩
  · rcases hn2 with rfl | ⟨b, off, rfl, hcell⟩
    · simp at hm0
    · obtain ⟨v', w', hrun, hrow, hgrew⟩ := app_run (P := P) (ty := ty) (c := c) ht hie hz hz2 h0 h2 (hn1.len) hcell hn1.ones (by omega) h63 hby hi.below.size
      have hsz : w.heap.size ≤ w'.heap.size := by rcases hgrew with ⟨_, hg⟩ | ⟨_, hg⟩ <;> exact hg.size
      have hbl : Below w0.heap.size w w' := by
        rcases hgrew with ⟨_, hg⟩ | ⟨_, hg⟩
        · exact (Below.refl _ _).grown hg hi.below.size (fun k hk => (h2.lt k hk).1)
        · exact (Below.refl _ _).grown hg hi.below.size (fun k hk => by cases hk)
      have hblk : ∀ k, k < w.heap.size → v'.ownBlock ≠ some k → w'.heap[k]? = w.heap[k]? := fun k hk hv => by
        rcases hgrew with ⟨he, hg⟩ | ⟨he, hg⟩
        · exact hg.block k hk (fun h => hv (by rw [he, ← h]))
        · exact hg.block k hk (fun h => by cases h)
      have hown : ∀ g, v'.ownBlock = some g → w.heap.size ≤ g ∨ (G.tv j).ownBlock = some g := fun g hv => by
        rcases hgrew with ⟨he, _⟩ | ⟨he, _⟩
        · exact .inr (by rw [← he]; exact hv)
        · rw [he] at hv; injection hv with hv; exact .inl (by omega)
      have hF3 : ∀ k, k ∈ F3 → k < w.heap.size := fun k hk => by
        obtain ⟨c, hc, hkc⟩ := hn3 k hk
        exact (hi.lt (hlive c hc) k hkc).2
      have hjl : (s.m j).live := by rw [hj]; trivial
      have hFj : ∀ k, k ∈ G.F j → k ∉ F3 := fun k hk hk3 => by
        obtain ⟨c, hc, hkc⟩ := hn3 k hk3
        exact hi.disj j c (fun e => hjc (e ▸ hc)) hjl (hlive c hc) k hk hkc
      have hne : ∀ k, k ∈ F' ++ F3 → v'.ownBlock ≠ some k ∧ k < w.heap.size := fun k hk => by
        rcases List.mem_append.1 hk with hk | hk
        · refine ⟨fun hv => ?_, (h6 k hk).2.1⟩
          rcases hown k hv with h | h
          · have := (h6 k hk).2.1; omega
          · exact (h5 k h).1 hk
        · refine ⟨fun hv => ?_, hF3 k hk⟩
          rcases hown k hv with h | h
          · have := hF3 k hk; omega
          · exact hFj k (by rw [h4, h]; simp) hk
      obtain ⟨G', h8⟩ := hi.tip dst (id := j) (con := con) (e := e) (deep := deep) (es := es ++ es2) (v' := v') (xs := xs ++ news) (F2 := F' ++ F3) hbl h0 hlive hjc (by rw [List.length_append]; exact hrow) (h3.app hn1)
        (fun hdd => by
          have ho1 := (h7 (hd hdd).1).keep (w' := w') (fun k hk => hblk k (h6 k hk).2.1 (hne k (by simp [hk])).1)
          have ho2 := (hn4 (hd hdd).2).keep (w' := w') (fun k hk => hblk k (hF3 k hk) (hne k (by simp [hk])).1)
          exact ho1.app ho2 (fun k hk => hFj k (by rw [h4]; simp [hk])))
        hblk
        (fun b o hk hv => by
          rcases hown b hv with h | h
          · have := hi.kin b o hk; omega
          · have hlt := ((h5 b h).2 o).1 hk
            refine ⟨by rw [List.length_append, Nat.add_mul]; omega, ?_⟩
            have hx := h2.1
            have hv1 : ∃ cap, G.tv j = .slice (some ⟨b, 0, none⟩) es.length cap := by
              rcases h2.2 with ⟨e1, _⟩ | ⟨g, cap, cur, e1, _⟩
              · rw [e1] at h; cases h
              · rw [e1] at h; simp only [Value.ownBlock, Option.some.injEq] at h; subst h; exact ⟨cap, e1⟩
            have hv2 : ∃ cap, v' = .slice (some ⟨b, 0, none⟩) (es.length + es2.length) cap := by
              rcases hrow.2 with ⟨e1, _⟩ | ⟨g, cap, cur, e1, _⟩
              · rw [e1] at hv; cases hv
              · rw [e1] at hv; simp only [Value.ownBlock, Option.some.injEq] at hv; subst hv; exact ⟨cap, e1⟩
            obtain ⟨c1, e1⟩ := hv1
            obtain ⟨c2, e2⟩ := hv2
            rw [e1] at h2
            rw [e2] at hrow
            rw [hrow.cellAt o (by rw [Nat.add_mul]; omega), h2.cellAt o hlt, List.getElem?_append_left (by omega)])
        (fun _ => by rw [h1, List.length_append]; omega)
        (fun g hv => by
          refine ⟨?_, fun h => (hne g h).1 hv⟩
          rcases hown g hv with h | h
          · exact .inl h
          · exact .inr ⟨by rw [h4, h]; simp, hjl⟩)
        (fun k hk => by
          rcases List.mem_append.1 hk with hk | hk
          · exact .inl ⟨by rw [h4]; simp [hk], hjl⟩
          · exact .inr (hn3 k hk))
      exact ⟨v', w', G', hrun, h8⟩
theorem upd_upd {α : Type} (f : Nat → α) (i : Nat) (u v : α) : upd (upd f i u) i v = upd f i v := by
  funext j
  by_cases h : j = i
  · subst h; rw [upd_same, upd_same]
  · rw [upd_ne _ _ _ h, upd_ne _ _ _ h, upd_ne _ _ _ h]
theorem rd_src {es : List (List D)} {c : Value} {n : Nat} (h : RdD w G.K (.sl es) c) (hn : ∀ e, e ∈ es → e.length = n) : ∃ A cap xs, c = .slice A es.length cap ∧ RdE w G.K n es xs ∧ (es = [] ∨ ∃ b off, A = some ⟨b, off, none⟩ ∧ ∀ i u, xs[i]? = some u → w.cell? ⟨b, off + i, none⟩ = some u) := by
  obtain ⟨A, cap, n', xs, h1, h2, h3, h4, h5⟩ := h.open
  cases es with
  | nil => exact ⟨A, cap, [], h1, by simp only [RdE], .inl rfl⟩
  | cons e es =>
    have e1 := (h4.get (j := 0) rfl).1
    have e2 := hn e (by simp)
    have e3 : n' = n := by omega
    subst e3
    refine ⟨A, cap, xs, h1, h4, h5.imp (fun h => h) ?_⟩
    rintro ⟨b, off, h6, h7⟩
    exact ⟨b, off, h6, fun i u hu => (h7 i u hu).1⟩
/-- Elements that are shared, or own nothing. -/
theorem src_plain (hi : Inv w0 s a w G) {y : Operand} {es : List (List D)} {n : Nat} {d : Bool} (hy : (s.ev y).asL = some es) (hn : ∀ e, e ∈ es → e.length = n) (hd : d = true → ∀ e, e ∈ es → ∀ x, x ∈ e → x.flat) : Src w G s n (a.eval y) es d [] := by
  obtain ⟨A, cap, xs, h1, h2, h3⟩ := rd_src (asL_rd hy (hi.ev y).1) hn
  exact ⟨by simp, A, cap, xs, [], h1, h2, h3, by simp, fun h => OwnE.ofFlat h2 (hd h)⟩
/-- Elements that a growing slice of the call's own hands over. -/
theorem src_tip (hi : Inv w0 s a w G) {y : Operand} {j n : Nat} {e : TypeId} {es : List (List D)} (hy : s.ev y = .g j es) (hj : s.m j = .tip true e n es) : Src w G s n (a.eval y) es true [j] := by
  have h := (hi.ev y).1
  rw [hy] at h
  simp only [RdS] at h
  obtain ⟨h1, h0, xs, F', h2, h3, h4, h5, h6, h7⟩ := hi.tipO hj
  have hv := h.2.2 h1.symm
  refine ⟨by simp; rw [hj]; trivial, ?_⟩
  rcases h2.2 with ⟨e1, e2⟩ | ⟨g, cap, cur, e1, hbg, hgr, hnc, hcm, hcs, htake⟩
  · obtain rfl := List.eq_nil_of_length_eq_zero e2
    simp only [RdE] at h3
    subst h3
    exact ⟨none, 0, [], F', by rw [hv, e1]; rfl, by simp only [RdE], .inl rfl, fun k hk => ⟨j, by simp, by rw [h4]; simp [hk]⟩, fun _ => h7 rfl⟩
  · refine ⟨some ⟨g, 0, none⟩, cap, xs, F', by rw [hv, e1], h3, .inr ⟨g, 0, rfl, fun i u hu => ?_⟩, fun k hk => ⟨j, by simp, by rw [h4]; simp [hk]⟩, fun _ => h7 rfl⟩
    rw [Nat.zero_add, cell_of_row w g i cur e (0, 0) hgr]
    rw [← htake, List.getElem?_take] at hu
    split at hu
    · simpa using hu
    · cases hu
/-- Elements that a datum of the call's own hands over. -/
theorem src_tok (hi : Inv w0 s a w G) {y : Operand} {j n : Nat} {es : List (List D)} (hy : s.ev y = .o j (.sl es)) (hj : s.m j = .tok (.sl es)) (hn : ∀ e, e ∈ es → e.length = n) : Src w G s n (a.eval y) es true [j] := by
  have h := (hi.ev y).1
  rw [hy] at h
  have ho := hi.ownD_tok hj h
  simp only [OwnD] at ho
  obtain ⟨A, cap, n', cs, h1, h2, h3, h4⟩ := ho
  refine ⟨by simp; rw [hj]; trivial, ?_⟩
  have hK : ∀ k, k ∈ G.F j → ∀ o, G.K k o := by
    have := hi.mem j
    rw [hj] at this
    exact fun k hk => (this.2 k hk).2.2
  rcases h4 with ⟨rfl, e1, rfl⟩ | ⟨b, off, F', e1, e2, e3, e4, e5, e6⟩
  · exact ⟨A, cap, [], [], h1, by simp only [RdE], .inl rfl, by simp, fun _ => by simp only [OwnE, and_self]⟩
  · cases es with
    | nil =>
      exact ⟨A, cap, [], [], h1, by simp only [RdE], .inl rfl, by simp, fun _ => by simp only [OwnE, and_self]⟩
    | cons x es =>
      have hr := e6.rd (K := G.K) (fun k hk => hK k (by rw [e2]; simp [hk]))
      have e7 := (hr.get (j := 0) rfl).1
      have e8 := hn x (by simp)
      have e9 : n' = n := by omega
      subst e9
      exact ⟨A, cap, cs, F', h1, hr, .inr ⟨b, off, e1, fun i u hu => (e5 i u hu).1⟩, fun k hk => ⟨j, by simp, by rw [e2]; simp [hk]⟩, fun _ => e6⟩
/-- The slice nil becomes a growing slice. -/
theorem Inv.adopt (hi : Inv w0 s a w G) {id n : Nat} (e : TypeId) (hn : 0 < n) (hm : s.m id = .none) : ∃ G', Inv w0 { s with m := upd s.m id (.tip true e n []) } a w G' ∧ G'.tv id = .slice none 0 0 ∧ RdS w G' (.g id []) (.slice none 0 0) ∧ G'.K = G.K ∧ ∀ j, s.m j ≠ .none → G'.F j = G.F j := by
  let G' : Gh := { G with F := upd G.F id [], tv := upd G.tv id (.slice none 0 0), tl := upd G.tl id 0 }
  have hne : ∀ j, s.m j ≠ .none → j ≠ id := fun j h e => h (e ▸ hm)
  have hk : Keep s.m w G w G' := ⟨fun b o h => ⟨h, rfl⟩, fun _ _ => rfl, fun _ _ => rfl, fun j hj => .inl (by simp only [G', upd_ne _ _ _ (hne j hj), and_self])⟩
  have hmm : ∀ j, s.m j ≠ .none → upd s.m id (.tip true e n []) j ≠ .none := fun j h => by rw [upd_ne _ _ _ (hne j h)]; exact h
  refine ⟨G', ⟨hi.below, hi.defers, hi.size, fun t ht => ⟨(hi.slots t ht).1.keep hk (hi.slots t ht).2, (hi.slots t ht).2.mono hmm⟩, hi.kold, hi.kin, fun j => ?_, fun i j hij hl hl' k hk1 hk2 => ?_⟩, by simp only [G', upd_same], ?_, rfl, fun j hj => upd_ne _ _ _ (hne j hj)⟩
  · by_cases hj : j = id
    · subst hj
      show InvB w0 w G' _ j (upd s.m j (.tip true e n []) j)
      rw [upd_same]
      have hF : G'.F j = [] := by simp only [G', upd_same]
      have htv : G'.tv j = .slice none 0 0 := by simp only [G', upd_same]
      have htl : G'.tl j = 0 := by simp only [G', upd_same]
      refine (show InvB w0 w G' _ j (.tip true e n []) from ⟨htl, hn, [], [], ?_, ?_, ?_, ?_, ?_, ?_⟩)
      · rw [htv]; exact World.ownsRow_nil _ _ _ _
      · simp only [RdE]
      · rw [hF, htv]; rfl
      · intro g hg; rw [htv] at hg; cases hg
      · intro k hk; cases hk
      · intro _; simp only [OwnE, and_self]
    · simp only [upd_ne _ _ _ hj]
      by_cases hl : (s.m j).live
      · exact (hi.mem j).keep hk hmm (fun e => by rw [e] at hl; exact hl) (fun k _ => ⟨rfl, fun _ => Iff.rfl⟩) (upd_ne _ _ _ hj) ⟨upd_ne _ _ _ hj, upd_ne _ _ _ hj⟩ (Nat.le_refl _)
      · generalize s.m j = x at hl
        cases x <;> first | trivial | exact (hl trivial).elim
  · by_cases e1 : i = id
    · subst e1
      simp only [G', upd_same] at hk1
      simp at hk1
    · by_cases e2 : j = id
      · subst e2
        simp only [G', upd_same] at hk2
        simp at hk2
      · simp only [upd_ne _ _ _ e1] at hl
        simp only [upd_ne _ _ _ e2] at hl'
        simp only [G', upd_ne _ _ _ e1, upd_ne _ _ _ e2] at hk1 hk2
        exact hi.disj i j hij hl hl' k hk1 hk2
  · simp only [RdS, G', upd_same]
    exact ⟨nil_rd, by simp, fun _ => trivial⟩
/-- The operation, onto a growing slice. -/
theorem wp_append {x y : Operand} {j n : Nat} {d1 d2 deep : Bool} {t e : TypeId} {ie : TypeInfo} {z : Value} {es es2 : List (List D)} {con : List Nat} (ho : o.op = .call { callee := .builtin .append, args := #[x, y], argTypes := #[t, t] }) (ht : P.underlying t = some (.slice e)) (hie : P.info? e = some ie) (hz : ie.zero = some z)
    (hz2 : z.cells.size = ie.size) (hs : ie.size = n) (hx : s.ev x = .g j es) (hj : s.m j = .tip d1 e n es) (hy : ∀ w0 a w G, Inv w0 s a w G → Src w G s n (a.eval y) es2 d2 con) (hd : deep = true → d1 = true ∧ d2 = true) (hjc : j ∉ con) (h63 : es.length + es2.length ≤ maxLen) (hby : (es.length + es2.length) * ie.bytes ≤ 140737488355328)
    (hi : Inv w0 s a w G) (hK : ∀ v w' G', Inv w0 { s.put o.dst (.g j (es ++ es2)) with m := upds (upd s.m j (.tip deep e n (es ++ es2))) (kill con) } (a.put o.dst v) w' G' → K (a.put o.dst v) w') : o.wp P a w K Q := by
  have h1 := (hi.ev x).1
  rw [hx] at h1
  simp only [RdS] at h1
  have h2 := h1.2.2 (hi.tipO hj).1.symm
  obtain ⟨v', w', G', h3, h4⟩ := hi.append (P := P) (ty := o.type) o.dst ht hie hz hz2 hs hj (hy _ _ _ _ hi) hd hjc h63 hby
  have h5 := hK _ _ _ h4
  unfold Oper.wp execOp
  simp only [ho, resolve, invoke, builtin, Sem.run_bind, Sem.run_pure, Result.andThen_ok, List.map_toArray, List.map_cons, List.map_nil, h2, h3, Oper.upon_value]
  exact h5
/-- The operation, onto the slice nil. -/
theorem wp_appendNil {x y : Operand} {id n : Nat} {d2 : Bool} {t e : TypeId} {ie : TypeInfo} {z : Value} {es2 : List (List D)} {con : List Nat} (ho : o.op = .call { callee := .builtin .append, args := #[x, y], argTypes := #[t, t] }) (ht : P.underlying t = some (.slice e)) (hie : P.info? e = some ie) (hz : ie.zero = some z)
    (hz2 : z.cells.size = ie.size) (hs : ie.size = n) (h0 : 0 < n) (hx : s.ev x = .d (.v (.slice none 0 0))) (hm : s.m id = .none) (hy : ∀ w0 a w G, Inv w0 s a w G → Src w G s n (a.eval y) es2 d2 con) (hjc : id ∉ con) (h63 : es2.length ≤ maxLen) (hby : es2.length * ie.bytes ≤ 140737488355328)
    (hi : Inv w0 s a w G) (hK : ∀ v w' G', Inv w0 { s.put o.dst (.g id es2) with m := upds (upd s.m id (.tip d2 e n es2)) (kill con) } (a.put o.dst v) w' G' → K (a.put o.dst v) w') : o.wp P a w K Q := by
  have h1 := (hi.ev x).1
  rw [hx] at h1
  have h1 := h1.val
  have hsrc := hy _ _ _ _ hi
  obtain ⟨G1, hi1, htv, hr, hK1, hF1⟩ := hi.adopt e h0 hm
  have nn : ∀ c, c ∈ con → s.m c ≠ .none := fun c hc e => by have := hsrc.live c hc; rw [e] at this; exact this
  have hsrc1 : Src w G1 { s with m := upd s.m id (.tip true e n []) } n (a.eval y) es2 d2 con := by
    obtain ⟨hl, A, c, xs, F, e1, e2, e3, e4, e5⟩ := hsrc
    refine ⟨fun c hc => ?_, A, c, xs, F, e1, by rw [hK1]; exact e2, e3, fun k hk => ?_, e5⟩
    · simp only
      rw [upd_ne _ _ _ (fun h : c = id => hjc (h ▸ hc))]
      exact hl c hc
    · obtain ⟨c, hc, hkc⟩ := e4 k hk
      exact ⟨c, hc, by rw [hF1 c (nn c hc)]; exact hkc⟩
  obtain ⟨v', w', G', h3, h4⟩ := hi1.append (P := P) (ty := o.type) o.dst (j := id) (es := []) (deep := d2) ht hie hz hz2 hs (upd_same _ _ _) hsrc1 (fun h => ⟨rfl, h⟩) hjc (by simpa using h63) (by simpa using hby)
  have e6 : ({ ({ s with m := upd s.m id (.tip true e n []) } : St).put o.dst (.g id ([] ++ es2)) with m := upds (upd (upd s.m id (.tip true e n [])) id (.tip d2 e n ([] ++ es2))) (kill con) } : St) = { s.put o.dst (.g id es2) with m := upds (upd s.m id (.tip d2 e n es2)) (kill con) } := by
    rw [upd_upd, List.nil_append]
    cases o.dst <;> rfl
  rw [htv] at h3
  have h5 := hK v' w' G' (by rw [← e6]; exact h4)
  unfold Oper.wp execOp
  simp only [ho, resolve, invoke, builtin, Sem.run_bind, Sem.run_pure, Result.andThen_ok, List.map_toArray, List.map_cons, List.map_nil, h1, h3, Oper.upon_value]
  exact h5
end
end Go.Proofs.Ytpcjhnbifgjleaa.Ab

/- Made slices, and stores into their elements. -/
namespace Go.Proofs.Ytpcjhnbifgjleaa.Ab
set_option linter.unusedSectionVars false
set_option linter.unusedSimpArgs false
set_option linter.constructorNameAsVariable false
open Go.RowKit
set_option linter.unusedVariables false
set_option maxRecDepth 100000
set_option linter.unusedSectionVars false

theorem made_succ (z : Array Value) (n : Nat) (hz : 0 < z.size) : (madeCells z ((n + 1) * z.size)).toList = z.toList ++ (madeCells z (n * z.size)).toList := by
  apply List.ext_getElem?
  intro j
  have e : (n + 1) * z.size = n * z.size + z.size := Nat.succ_mul _ _
  by_cases h1 : j < z.size
  · rw [List.getElem?_append_left (by simpa using h1)]
    have h2 : j < (n + 1) * z.size := by omega
    simp only [madeCells, Array.toList_map, List.getElem?_map, Array.toList_range, List.getElem?_range h2, Option.map_some, Nat.mod_eq_of_lt h1]
    rw [getElem!_pos z j h1]
    simp [h1]
  · rw [List.getElem?_append_right (by simpa using h1)]
    by_cases h2 : j < (n + 1) * z.size
    · have h3 : j - z.size < n * z.size := by omega
      simp only [madeCells, Array.toList_map, List.getElem?_map, Array.toList_range, List.getElem?_range h2, Array.length_toList, List.getElem?_range h3, Option.map_some]
      rw [show j = (j - z.size) + z.size by omega, Nat.add_mod_right, Nat.add_sub_cancel]
    · have h3 : ¬ j - z.size < n * z.size := by omega
      simp only [madeCells, Array.toList_map, List.getElem?_map, Array.toList_range, Array.length_toList]
      rw [List.getElem?_eq_none (by simpa using h2), List.getElem?_eq_none (by simpa using h3)]
theorem made_rd {w : World} {K : Nat → Nat → Prop} {z : Array Value} {ds : List D} (h : RdC w K ds z.toList) (hz : 0 < z.size) : ∀ n : Nat, RdE w K z.size (List.replicate n ds) (madeCells z (n * z.size)).toList
  | 0 => by
    simp only [List.replicate_zero, RdE, Nat.zero_mul]
    simp [madeCells]
  | n + 1 => by
    rw [List.replicate_succ, made_succ z n hz]
    simp only [RdE]
    exact ⟨_, _, rfl, by have := h.len; simpa using this.symm, h, made_rd h hz n⟩
theorem setMany_mid {α : Type} (x c y : List α) (k : Nat) (ws : List α) (h : k + ws.length ≤ c.length) : setMany (x ++ (c ++ y)) (x.length + k) ws = x ++ (setMany c k ws ++ y) := by
  unfold setMany
  rw [List.take_append, List.take_of_length_le (by omega), show x.length + k - x.length = k by omega, List.take_append, List.drop_append, List.drop_of_length_le (by omega), show x.length + k + ws.length - x.length = k + ws.length by omega, List.drop_append,
    show k - c.length = 0 by omega, show k + ws.length - c.length = 0 by omega]
  simp
theorem setMany_take {α : Type} (l : List α) (n off : Nat) (ws : List α) (h : off + ws.length ≤ n) (hn : n ≤ l.length) : (setMany l off ws).take n = setMany (l.take n) off ws := by
  have e : l = l.take n ++ l.drop n := (List.take_append_drop n l).symm
  have := setMany_mid [] (l.take n) (l.drop n) off ws (by simp; omega)
  simp only [List.nil_append, List.length_nil, Nat.zero_add] at this
  rw [List.take_append_drop] at this
  rw [this]
  exact List.take_left' (by rw [setMany_len (by simp; omega)]; simp; omega)
section
variable {w : World} {K : Nat → Nat → Prop}
theorem RdC.setMany {ds vs : List D} {cs ws : List Value} (h : RdC w K ds cs) (h2 : RdC w K vs ws) (k : Nat) (hl : k + vs.length ≤ ds.length) : RdC w K (setMany ds k vs) (setMany cs k ws) := by
  have e := h2.len
  rw [← List.take_append_drop k ds] at h
  obtain ⟨c1, c2, rfl, h3, h4⟩ := h.split
  rw [← List.take_append_drop vs.length (ds.drop k)] at h4
  obtain ⟨c3, c4, rfl, h5, h6⟩ := h4.split
  have l1 := h3.len
  have l2 := h5.len
  simp only [List.length_take, List.length_drop] at l1 l2
  have l3 : c1.length = k := by omega
  have := setMany_mid c1 c3 c4 0 ws (by omega)
  rw [Nat.add_zero, l3] at this
  rw [this]
  unfold Ab.setMany
  rw [List.drop_drop] at h6
  simp only [List.take_zero, List.nil_append, Nat.zero_add]
  rw [List.drop_of_length_le (l := c3) (by omega), List.append_nil, List.append_assoc]
  exact h3.app (h2.app h6)
theorem OwnC.app : ∀ {ds ds' : List D} {F F' : List Nat} {cs cs' : List Value}, OwnC w ds F cs → OwnC w ds' F' cs' → (∀ k, k ∈ F → k ∉ F') → OwnC w (ds ++ ds') (F ++ F') (cs ++ cs')
  | [], ds', F, F', cs, cs', h, h', hd => by simp only [OwnC] at h; obtain ⟨rfl, rfl⟩ := h; exact h'
  | d :: ds, ds', F, F', cs, cs', h, h', hd => by
    simp only [OwnC] at h
    obtain ⟨F1, F2, c, c2, rfl, h1, rfl, h3, h4⟩ := h
    rw [List.cons_append]
    simp only [OwnC]
    refine ⟨F1, F2 ++ F', c, c2 ++ cs', by simp, fun k hk => ?_, by simp, h3, OwnC.app h4 h' (fun k hk => hd k (by simp [hk]))⟩
    simp only [List.mem_append, not_or]
    exact ⟨h1 k hk, hd k (by simp [hk])⟩
theorem OwnC.setMany {ds vs : List D} {F F' : List Nat} {cs ws : List Value} (h : OwnC w ds F cs) (h2 : OwnC w vs F' ws) (hd : ∀ k, k ∈ F → k ∉ F') (k : Nat) (hl : k + vs.length ≤ ds.length) : ∃ F2, (∀ x, x ∈ F2 → x ∈ F ∨ x ∈ F') ∧ OwnC w (setMany ds k vs) F2 (setMany cs k ws) := by
  have e := h2.len
  rw [← List.take_append_drop k ds] at h
  obtain ⟨F1, F2, c1, c2, rfl, h1, rfl, h3, h4⟩ := h.split
  rw [← List.take_append_drop vs.length (ds.drop k)] at h4
  obtain ⟨F3, F4, c3, c4, rfl, h7, rfl, h5, h6⟩ := h4.split
  have l1 := h3.len
  have l2 := h5.len
  simp only [List.length_take, List.length_drop] at l1 l2
  have l3 : c1.length = k := by omega
  have := setMany_mid c1 c3 c4 0 ws (by omega)
  rw [Nat.add_zero, l3] at this
  rw [this]
  unfold Ab.setMany
  rw [List.drop_drop] at h6
  simp only [List.take_zero, List.nil_append, Nat.zero_add]
  rw [List.drop_of_length_le (l := c3) (by omega), List.append_nil, List.append_assoc]
  refine ⟨F1 ++ (F' ++ F4), fun x hx => ?_, h3.app (h2.app h6 (fun k hk hk' => hd k (by simp [hk']) hk)) (fun k hk hk' => ?_)⟩
  · simp only [List.mem_append] at hx ⊢
    rcases hx with h | h | h
    · exact .inl (.inl h)
    · exact .inr h
    · exact .inl (.inr (.inr h))
  · rcases List.mem_append.1 hk' with h | h
    · exact hd k (by simp [hk]) h
    · exact h1 k hk (by simp [h])
theorem set_split {α : Type} (es : List α) (i : Nat) (e : α) (h : es[i]? = some e) : es = es.take i ++ e :: es.drop (i + 1) ∧ ∀ e', es.set i e' = es.take i ++ e' :: es.drop (i + 1) := by
  obtain ⟨hi, rfl⟩ := List.getElem?_eq_some_iff.1 h
  refine ⟨by simp, fun e' => ?_⟩
  rw [List.set_eq_take_append_cons_drop, if_pos hi]
theorem RdE.setMany {n : Nat} {es : List (List D)} {xs ws : List Value} {vs el : List D} {i k : Nat} (h : RdE w K n es xs) (he : es[i]? = some el) (h2 : RdC w K vs ws) (hl : k + vs.length ≤ el.length) : RdE w K n (es.set i (setMany el k vs)) (setMany xs (i * n + k) ws) := by
  obtain ⟨e1, e2⟩ := set_split es i el he
  have hi := (List.getElem?_eq_some_iff.1 he).1
  rw [e2]
  rw [e1] at h
  obtain ⟨x1, x2, rfl, h3, h4⟩ := h.split
  simp only [RdE] at h4
  obtain ⟨c1, c2, rfl, h5, h6, h7⟩ := h4
  have l1 := h3.len
  have l2 := h6.len
  have l3 := h2.len
  rw [List.length_take, Nat.min_eq_left (by omega)] at l1
  rw [← l1, setMany_mid x1 c1 c2 k ws (by omega)]
  refine h3.app ?_
  simp only [RdE]
  exact ⟨_, _, rfl, by rw [setMany_len hl, h5], h6.setMany h2 k hl, h7⟩
theorem OwnE.split : ∀ {n : Nat} {es es' : List (List D)} {F : List Nat} {cs : List Value}, OwnE w n (es ++ es') F cs → ∃ F1 F2 c1 c2, F = F1 ++ F2 ∧ (∀ k, k ∈ F1 → k ∉ F2) ∧ cs = c1 ++ c2 ∧ OwnE w n es F1 c1 ∧ OwnE w n es' F2 c2
  | n, [], es', F, cs, h => ⟨[], F, [], cs, rfl, by simp, rfl, by simp only [OwnE, and_self], h⟩
  | n, d :: es, es', F, cs, h => by
    rw [List.cons_append] at h
    simp only [OwnE] at h
    obtain ⟨F1, F2, c, c2, rfl, h1, rfl, h0, h2, h3⟩ := h
    obtain ⟨F3, F4, c3, c4, rfl, h4, rfl, h5, h6⟩ := OwnE.split h3
    refine ⟨F1 ++ F3, F4, c ++ c3, c4, by simp, fun k hk => ?_, by simp, ?_, h6⟩
    · rcases List.mem_append.1 hk with hk | hk
      · exact fun h => h1 k hk (by simp [h])
      · exact h4 k hk
    · simp only [OwnE]
      exact ⟨F1, F3, c, c3, rfl, fun k hk h => h1 k hk (by simp [h]), rfl, h0, h2, h5⟩
theorem OwnE.setMany {n : Nat} {es : List (List D)} {F F' : List Nat} {xs ws : List Value} {vs el : List D} {i k : Nat} (h : OwnE w n es F xs) (he : es[i]? = some el) (h2 : OwnC w vs F' ws) (hd : ∀ k, k ∈ F → k ∉ F') (hl : k + vs.length ≤ el.length) :
    ∃ F2, (∀ x, x ∈ F2 → x ∈ F ∨ x ∈ F') ∧ OwnE w n (es.set i (setMany el k vs)) F2 (setMany xs (i * n + k) ws) := by
  obtain ⟨e1, e2⟩ := set_split es i el he
  have hi := (List.getElem?_eq_some_iff.1 he).1
  rw [e2]
  rw [e1] at h
  obtain ⟨F1, F2, x1, x2, rfl, h1, rfl, h3, h4⟩ := h.split
  simp only [OwnE] at h4
  obtain ⟨F3, F4, c1, c2, rfl, h5, rfl, h6, h7, h8⟩ := h4
  have l1 := h3.len
  have l2 := h7.len
  have l3 := h2.len
  rw [List.length_take, Nat.min_eq_left (by omega)] at l1
  rw [← l1, setMany_mid x1 c1 c2 k ws (by omega)]
  obtain ⟨F5, h9, h10⟩ := h7.setMany h2 (fun k hk => hd k (by simp [hk])) k hl
  refine ⟨F1 ++ (F5 ++ F4), fun x hx => ?_, h3.app ?_ (fun y hy hy' => ?_)⟩
  · simp only [List.mem_append] at hx ⊢
    rcases hx with h | h | h
    · exact .inl (.inl h)
    · rcases h9 x h with h | h
      · exact .inl (.inr (.inl h))
      · exact .inr h
    · exact .inl (.inr (.inr h))
  · simp only [OwnE]
    refine ⟨F5, F4, _, c2, rfl, fun y hy hy' => ?_, rfl, by rw [setMany_len hl, h6], h10, h8⟩
    rcases h9 y hy with h | h
    · exact h5 y h hy'
    · exact hd y (by simp [hy']) h
  · rcases List.mem_append.1 hy' with h | h
    · rcases h9 y h with h | h
      · exact h1 y hy (by simp [h])
      · exact hd y (by simp [hy]) h
    · exact h1 y hy (by simp [h])
end
end Go.Proofs.Ytpcjhnbifgjleaa.Ab

/- Made slices of the call's own. -/
namespace Go.Proofs.Ytpcjhnbifgjleaa.Ab
set_option linter.unusedSectionVars false
set_option linter.unusedSimpArgs false
set_option linter.constructorNameAsVariable false
open Go.RowKit
set_option linter.unusedVariables false
set_option maxRecDepth 100000
set_option linter.unusedSectionVars false

section
variable {P : Program} {w0 : Base} {w w' : World} {G G' : Gh} {s : St} {a : Act} {o : Oper} {K : Act → World → Prop} {Q : Exit → Act → World → Prop}
theorem wp_make {x y : Operand} {t e : TypeId} {ie : TypeInfo} {z : Value} {k1 k2 : IntKind} {n id : Nat} {zs : List S} {ds : List D} (ho : o.op = .makeSlice t x y) (ht : P.underlying t = some (.slice e)) (hie : P.info? e = some ie) (hz : ie.zero = some z) (hzc : zeroCells? P e = some zs) (hds : toDs zs = some ds)
    (hfl : ∀ d, d ∈ ds → d.flat) (hs : ds.length = ie.size) (h0 : 0 < ie.size) (hx : s.ev x = .d (.v (.int k1 (n : Int)))) (hy : s.ev y = .d (.v (.int k2 (n : Int)))) (hby : ie.bytes * n ≤ 281474976710656) (h63 : n ≤ maxLen) (hm : s.m id = .none) (hi : Inv w0 s a w G)
    (hK : ∀ v w' G', Inv w0 (s.app o.dst ⟨.m id, [(id, .arr true e ie.size (List.replicate n ds))], []⟩) (a.put o.dst v) w' G' → K (a.put o.dst v) w') : o.wp P a w K Q := by
  have h1 := (hi.ev x).1
  rw [hx] at h1
  have h2 := (hi.ev y).1
  rw [hy] at h2
  obtain ⟨i', v', e1, e2, e3, e4, e5⟩ := zeroCells_rd hzc w G s.m
  rw [hie] at e1
  injection e1 with e1
  subst e1
  rw [hz] at e2
  injection e2 with e2
  subst e2
  have hr := toDs_rd hds e3
  have hzl : z.cells.size = ie.size := by rw [← hs, ← hr.len]; simp
  obtain ⟨w', hrun, hrow, hg⟩ := run_make_full (P := P) w w0.heap.size t e ie z ie.size ht hie hz rfl k1 k2 n hby h63 hi.below.size
  let G' : Gh := { G with bx := upd G.bx id w.heap.size, F := upd G.F id [w.heap.size], ov := upd G.ov id (.slice (some ⟨w.heap.size, 0, none⟩) n n) }
  have hne : ∀ j, s.m j ≠ .none → j ≠ id := fun j h e => h (e ▸ hm)
  have hb : Below w0.heap.size w w' := (Below.refl _ _).grown hg hi.below.size (fun k hk => by cases hk)
  have hold : ∀ k, k < w.heap.size → w'.heap[k]? = w.heap[k]? := fun k hk => hg.block k hk (fun h => by cases h)
  have hk : Keep s.m w G w' G' := ⟨fun b o h => ⟨h, World.cell?_of_block (w := w) (a := ⟨b, o, none⟩) (hold b (hi.kin b o h))⟩, fun j h => upd_ne _ _ _ (hne j h), fun j h => upd_ne _ _ _ (hne j h), fun j h => .inl ⟨rfl, rfl⟩⟩
  have hmm : ∀ j, s.m j ≠ .none → upd s.m id (.arr true e ie.size (List.replicate n ds)) j ≠ .none := fun j h => by rw [upd_ne _ _ _ (hne j h)]; exact h
  have hrd : RdE w G.K ie.size (List.replicate n ds) (madeCells z.cells (n * ie.size)).toList := by
    have := made_rd hr (by omega) n
    rw [hzl] at this
    exact this
  have hinv : Inv w0 (s.app o.dst ⟨.m id, [(id, .arr true e ie.size (List.replicate n ds))], []⟩) (a.put o.dst (.slice (some ⟨w.heap.size, 0, none⟩) n n)) w' G' := by
    refine hi.step o.dst (upd s.m id (.arr true e ie.size (List.replicate n ds))) hb (fun _ _ _ => Iff.rfl) hk hmm (fun b o h => by have := hi.kin b o h; have := hb.size; omega) ?_ ?_ ?_ ?_
    · intro j
      by_cases hj : j = id
      · subst hj
        right
        rw [upd_same]
        have f1 : G'.bx j = w.heap.size := by simp only [G', upd_same]
        have f2 : G'.F j = [w.heap.size] := by simp only [G', upd_same]
        have f3 : G'.ov j = .slice (some ⟨w.heap.size, 0, none⟩) n n := by simp only [G', upd_same]
        refine (show InvB w0 w' G' _ j (.arr true e ie.size (List.replicate n ds)) from ⟨h0, (madeCells z.cells (n * ie.size)).toList, [], n, ?_, ?_, ?_, ?_, ?_, ?_, ?_, ?_⟩)
        · rw [f3, f1, List.length_replicate]
        · rw [f3, List.length_replicate]; exact hrow
        · exact hrd.keep hk.k
        · rw [f2, f1]
        · simp
        · intro o h
          rw [f1] at h
          have := hi.kin _ _ h
          omega
        · intro k hk; cases hk
        · intro _
          exact OwnE.ofFlat (hrd.keep hk.k) (fun e he d hd => by
            rw [List.mem_replicate] at he
            rw [he.2] at hd
            exact hfl d hd)
      · left
        exact ⟨upd_ne _ _ _ hj, fun hl => ⟨fun k hk' => ⟨hold k (hi.lt hl k hk').2, fun _ => Iff.rfl⟩, upd_ne _ _ _ hj, rfl, rfl⟩⟩
    · intro i j hij hl hl' k hk1 hk2
      have old : ∀ j, j ≠ id → (upd s.m id (.arr true e ie.size (List.replicate n ds)) j).live → ∀ k, k ∈ G'.F j → k < w.heap.size := fun j hj hl k hk' => by
        rw [upd_ne _ _ _ hj] at hl
        simp only [G', upd_ne _ _ _ hj] at hk'
        exact (hi.lt hl k hk').2
      by_cases hi' : i = id
      · subst hi'
        simp only [G', upd_same, List.mem_singleton] at hk1
        have := old j (fun e => hij e.symm) hl' k hk2
        omega
      · by_cases hj' : j = id
        · subst hj'
          simp only [G', upd_same, List.mem_singleton] at hk2
          have := old i hi' hl k hk1
          omega
        · rw [upd_ne _ _ _ hi'] at hl
          rw [upd_ne _ _ _ hj'] at hl'
          simp only [G', upd_ne _ _ _ hi', upd_ne _ _ _ hj'] at hk1 hk2
          exact hi.disj i j hij hl hl' k hk1 hk2
    · simp only [RdS, G', upd_same]
      exact ⟨trivial, rfl⟩
    · simp only [S.wf, upd_same]
      exact fun h => by cases h
  have h3 := hK _ _ _ hinv
  unfold Oper.wp execOp
  simp only [ho, Sem.run_bind, h1.int, h2.int, hrun, Result.andThen_ok, Sem.run_pure, Oper.upon_value]
  exact h3
/-- A store into an element. -/
theorem wp_storeq {t : TypeId} {x y : Operand} {j n i k : Nat} {deep deep' : Bool} {e : TypeId} {es : List (List D)} {el ds : List D} {vs : List S} {con : List Nat} (ho : o.op = .store t x y) (hx : s.ev x = .q j n i k) (hj : s.m j = .arr deep e n es) (hel : es[i]? = some el) (hy : (s.ev y).cells? = some vs)
    (hds : toDs vs = some ds) (hl : k + ds.length ≤ el.length) (ht : (P.info? t).map (·.size) = some ds.length) (hdeep : if deep' = true then deep = true ∧ ownIds s.m vs = some con ∧ sameD s.m vs ∧ con.Nodup else con = []) (hjc : j ∉ con) (hi : Inv w0 s a w G)
    (hK : ∀ v w' G', Inv w0 { s.put o.dst .u with m := upds (upd s.m j (.arr deep' e n (es.set i (setMany el k ds)))) (kill con) } (a.put o.dst v) w' G' → K (a.put o.dst v) w') : o.wp P a w K Q := by
  have h1 := (hi.ev x).1
  rw [hx] at h1
  simp only [RdS] at h1
  have h2 := cells_rd hy (hi.ev y).1
  have hr := toDs_rd hds h2.1
  obtain ⟨h0, cap, cur, xs, F', g1, g2, g3, g4, g5, g6, g7, g8, g9, g10, g11, g12, g13⟩ := hi.arr hj
  have hcon : (∀ c, c ∈ con → (s.m c).live) ∧ (deep' = true → deep = true ∧ OwnC w ds (con.flatMap G.F) (a.eval y).cells.toList) := by
    cases deep' with
    | false =>
      simp only [Bool.false_eq_true, if_false] at hdeep
      subst hdeep
      exact ⟨by simp, fun h => by cases h⟩
    | true =>
      simp only [if_true] at hdeep
      have := hi.ownC h2.1 (toDs_m hds) hdeep.2.1 hdeep.2.2.1 hdeep.2.2.2
      exact ⟨this.2, fun _ => ⟨hdeep.1, this.1⟩⟩
  have hjl : (s.m j).live := by rw [hj]; trivial
  have hne : el.length = n := (g8.get hel).1
  have hil : i < es.length := (List.getElem?_eq_some_iff.1 hel).1
  have hwl : (a.eval y).cells.size = ds.length := by have := hr.len; simpa using this
  have hin : i * n + n ≤ es.length * n := by rw [← Nat.succ_mul]; exact Nat.mul_le_mul_right _ hil
  have hcap : es.length * n ≤ cur.size := by rw [g5]; exact Nat.mul_le_mul_right _ g3
  have hrun := storeAt_run (P := P) (t := t) (o := i * n + k) (v := a.eval y) g2 (by rw [ht, hwl]) h2.2 (by omega)
  let w' := w.setRow (G.bx j) (setMany cur.toList (i * n + k) (a.eval y).cells.toList).toArray
  let F3 := con.flatMap G.F
  have hF3l : ∀ k, k ∈ F3 → w0.heap.size ≤ k ∧ k < w.heap.size := fun k hk => by
    obtain ⟨c, hc, hkc⟩ := List.mem_flatMap.1 hk
    exact hi.lt (hcon.1 c hc) k hkc
  have hFj : ∀ k, k ∈ G.F j → k ∉ F3 := fun k hk hk3 => by
    obtain ⟨c, hc, hkc⟩ := List.mem_flatMap.1 hk3
    exact hi.disj j c (fun e => hjc (e ▸ hc)) hjl (hcon.1 c hc) k hk hkc
  have hblk : ∀ k, k ≠ G.bx j → w'.heap[k]? = w.heap[k]? := fun k hk => setRow_other w _ k _ hk
  have hxs : (setMany cur.toList (i * n + k) (a.eval y).cells.toList).take (es.length * n) = setMany xs (i * n + k) (a.eval y).cells.toList := by
    rw [setMany_take _ _ _ _ (by simp; omega) (by simpa using hcap), g6]
  obtain ⟨F2, hF2, hown⟩ : ∃ F2, (∀ x, x ∈ F2 → x ∈ F' ∨ x ∈ F3) ∧ (deep' = true → OwnE w n (es.set i (setMany el k ds)) F2 (setMany xs (i * n + k) (a.eval y).cells.toList)) := by
    by_cases hd : deep' = true
    · obtain ⟨F2, h5, h6⟩ := (g13 (hcon.2 hd).1).setMany hel (hcon.2 hd).2 (fun k hk => hFj k (by rw [g9]; simp [hk])) hl
      exact ⟨F2, h5, fun _ => h6⟩
    · exact ⟨[], by simp, fun h => (hd h).elim⟩
  have hF2l : ∀ k, k ∈ F2 → w0.heap.size ≤ k ∧ k < w.heap.size ∧ k ≠ G.bx j := fun k hk => by
    rcases hF2 k hk with h | h
    · exact ⟨(g12 k h).1, (g12 k h).2.1, fun e => g10 (e ▸ h)⟩
    · exact ⟨(hF3l k h).1, (hF3l k h).2, fun e => hFj k (by rw [g9, e]; simp) h⟩
  let G' : Gh := { G with K := fun b o => G.K b o ∨ b ∈ F3, F := upd G.F j (G.bx j :: F2) }
  have hbF3 : G.bx j ∉ F3 := hFj _ (by rw [g9]; simp)
  have hm' : ∀ q, upds (upd s.m j (.arr deep' e n (es.set i (setMany el k ds)))) (kill con) q = if q ∈ con then .dead else if q = j then .arr deep' e n (es.set i (setMany el k ds)) else s.m q := fun q => by
    rw [upds_kill]
    by_cases hq : q ∈ con
    · rw [if_pos hq, if_pos hq]
    · rw [if_neg hq, if_neg hq]; rfl
  have hmm : ∀ q, s.m q ≠ .none → upds (upd s.m j (.arr deep' e n (es.set i (setMany el k ds)))) (kill con) q ≠ .none := fun q h => by
    rw [hm']
    split
    · exact fun h => by cases h
    · split
      · exact fun h => by cases h
      · exact h
  have hb : Below w0.heap.size w w' := ⟨rfl, rfl, rfl, by simp [w'], fun k hk => hblk k (by omega)⟩
  have hk : Keep s.m w G w' G' := ⟨fun b o h => ⟨.inl h, World.cell?_of_block (w := w) (a := ⟨b, o, none⟩) (hblk b (fun e => g11 o (e ▸ h)))⟩, fun _ _ => rfl, fun _ _ => rfl, fun _ _ => .inl ⟨rfl, rfl⟩⟩
  have hlive : ∀ q, q ≠ j → (upds (upd s.m j (.arr deep' e n (es.set i (setMany el k ds)))) (kill con) q).live → (s.m q).live ∧ q ∉ con := fun q hq hl => by
    rw [hm'] at hl
    by_cases hc : q ∈ con
    · rw [if_pos hc] at hl; exact hl.elim
    · rw [if_neg hc, if_neg hq] at hl; exact ⟨hl, hc⟩
  have hinv : Inv w0 { s.put o.dst .u with m := upds (upd s.m j (.arr deep' e n (es.set i (setMany el k ds)))) (kill con) } (a.put o.dst undef) w' G' := by
    refine hi.step o.dst _ hb (fun b o h => ?_) hk hmm (fun b o h => ?_) ?_ ?_ (by simp only [RdS]) (by simp only [S.wf])
    · have h2 : b ∉ F3 := fun hv => by have := (hF3l b hv).1; omega
      simp only [G', h2, or_false]
    · have := hb.size
      rcases h with h | h
      · have := hi.kin b o h; omega
      · have := (hF3l b h).2; omega
    · intro q
      by_cases hq : q ∈ con
      · right
        rw [hm', if_pos hq]
        trivial
      · by_cases hqj : q = j
        · subst hqj
          right
          rw [hm', if_neg hq, if_pos rfl]
          have f2 : G'.F q = G.bx q :: F2 := by simp only [G', upd_same]
          have hlen : (es.set i (setMany el k ds)).length = es.length := List.length_set
          refine (show InvB w0 w' G' _ q (.arr deep' e n (es.set i (setMany el k ds))) from ⟨h0, setMany xs (i * n + k) (a.eval y).cells.toList, F2, cap, ?_, ?_, ?_, f2, ?_, ?_, ?_, ?_⟩)
          · rw [hlen]; exact g1
          · rw [hlen]
            show World.ownsRow w' w0.heap.size e n (G.ov q) es.length _
            rw [g1]
            have hxl : xs.length = es.length * n := g8.len
            refine ⟨by rw [setMany_len (by simp; omega), hxl], .inr ⟨G.bx q, cap, _, rfl, g7, setRow_heap w _ cur _ e _ g2, g3, g4, ?_, ?_⟩⟩
            · rw [← g5]
              simp only [List.size_toArray]
              rw [setMany_len (by simp; omega)]
              simp
            · exact hxs
          · exact (g8.setMany hel hr hl).keep hk.k
          · exact fun h => (hF2l _ h).2.2 rfl
          · rintro o (h | h)
            · exact g11 o h
            · exact hbF3 h
          · intro k hk
            have := hF2l k hk
            refine ⟨this.1, by have := hb.size; omega, fun o => ?_⟩
            rcases hF2 k hk with h | h
            · exact .inl ((g12 k h).2.2 o)
            · exact .inr h
          · intro hd
            exact (hown hd).keep (fun k hk => hblk k (hF2l k hk).2.2)
        · left
          refine ⟨by rw [hm', if_neg hq, if_neg hqj], fun hl => ⟨fun k hk' => ⟨hblk k (fun h => ?_), fun o => ?_⟩, upd_ne _ _ _ hqj, rfl, rfl⟩⟩
          · exact hi.disj q j hqj hl hjl k hk' (by rw [g9, h]; simp)
          · have h2 : k ∉ F3 := fun hv => by
              obtain ⟨c, hc, hkc⟩ := List.mem_flatMap.1 hv
              exact hi.disj q c (fun e => hq (e ▸ hc)) hl (hcon.1 c hc) k hk' hkc
            simp only [G', h2, or_false]
    · have apart : ∀ q, q ≠ j → (upds (upd s.m j (.arr deep' e n (es.set i (setMany el k ds)))) (kill con) q).live → ∀ k, k ∈ G'.F j → k ∉ G'.F q := fun q hq hl k hk1 hk2 => by
        obtain ⟨h5, h6⟩ := hlive q hq hl
        simp only [G', upd_same] at hk1
        simp only [G', upd_ne _ _ _ hq] at hk2
        rcases List.mem_cons.1 hk1 with h | h
        · exact hi.disj q j hq h5 hjl k hk2 (by rw [g9, h]; simp)
        · rcases hF2 k h with h | h
          · exact hi.disj q j hq h5 hjl k hk2 (by rw [g9]; simp [h])
          · obtain ⟨c, hc, hkc⟩ := List.mem_flatMap.1 h
            exact hi.disj q c (fun e => h6 (e ▸ hc)) h5 (hcon.1 c hc) k hk2 hkc
      intro q q' hqq hl hl' k hk1 hk2
      by_cases e1 : q = j
      · subst e1
        exact apart q' (fun e => hqq e.symm) hl' k hk1 hk2
      · by_cases e2 : q' = j
        · subst e2
          exact apart q e1 hl k hk2 hk1
        · simp only [G', upd_ne _ _ _ e1, upd_ne _ _ _ e2] at hk1 hk2
          exact hi.disj q q' hqq (hlive q e1 hl).1 (hlive q' e2 hl').1 k hk1 hk2
  have h3 := hK _ _ _ hinv
  rw [← h1] at hrun
  unfold Oper.wp execOp
  simp only [ho, Sem.run_bind, hrun, Result.andThen_ok, Sem.run_pure, Oper.upon_skip]
  exact h3
end
end Go.Proofs.Ytpcjhnbifgjleaa.Ab

/- Calls that write into memory of the caller's own: what is handed over and what comes back. -/
namespace Go.Proofs.Ytpcjhnbifgjleaa.Ab
set_option linter.unusedSectionVars false
set_option linter.unusedSimpArgs false
set_option linter.constructorNameAsVariable false
open Go.RowKit
set_option linter.unusedVariables false
set_option maxRecDepth 100000
set_option linter.unusedSectionVars false

/-- A slot that says less. -/
def LeS (x y : S) : Prop := y = .u ∨ y = x ∨ ∃ d, y = .d d ∧ x.toD = some d
def LeSs : List S → List S → Prop
  | [], [] => True
  | x :: l, y :: l' => LeS x y ∧ LeSs l l'
  | _, _ => False
theorem LeS.rd {w : World} {G : Gh} {x y : S} {c : Value} (h : LeS x y) (hr : RdS w G x c) : RdS w G y c := by
  rcases h with rfl | rfl | ⟨d, rfl, h⟩
  · simp only [RdS]
  · exact hr
  · simp only [RdS]; exact toD_rd h hr
theorem LeSs.rd {w : World} {G : Gh} : ∀ {l l' : List S} {cs : List Value}, LeSs l l' → RdSs w G l cs → RdSs w G l' cs
  | [], [], cs, _, h => h
  | x :: l, y :: l', cs, h, hr => by
    simp only [LeSs] at h
    simp only [RdSs] at hr ⊢
    obtain ⟨c, c2, h1, h2, h3⟩ := hr
    exact ⟨c, c2, h1, h.1.rd h2, h.2.rd h3⟩
  | [], _ :: _, _, h, _ => h.elim
  | _ :: _, [], _, h, _ => h.elim
/-- A number under which less is said. -/
def LeB : B → B → Prop
  | _, .none => True
  | _, .dead => True
  | .box l, .box l' => LeSs l l'
  | .tip d e n es, .tip d' e' n' es' => (d' = true → d = true) ∧ e' = e ∧ n' = n ∧ es' = es
  | .arr d e n es, .arr d' e' n' es' => (d' = true → d = true) ∧ e' = e ∧ n' = n ∧ es' = es
  | .tok x, .tok y => y = x
  | .frm l, .frm l' => l' = l
  | _, _ => False
def wfI (M : Nat → B) : List Nat → Prop
  | [] => True
  | i :: l => M i ≠ .none ∧ wfI M l
def wfB (M : Nat → B) : B → Prop
  | .box l => S.wfs M l
  | .frm ids => wfI M ids
  | _ => True
theorem wfI_at {M : Nat → B} : ∀ {ids : List Nat}, wfI M ids → ∀ i, i ∈ ids → M i ≠ .none
  | [], _, i, h => by simp at h
  | j :: l, h, i, hi => by
    simp only [wfI] at h
    rcases List.mem_cons.1 hi with rfl | hi
    · exact h.1
    · exact wfI_at h.2 i hi
def B.okM : B → Bool
  | .none => false
  | .frm _ => false
  | _ => true
def keysM (M : List (Nat × B)) : List Nat := M.map (·.1)
/-- The memory that a call is handed, beside what its caller holds otherwise. -/
def fM (ids : List Nat) (M : List (Nat × B)) : Nat → B := upd (updl (fun _ => .none) M) 9 (.frm ids)
theorem updl_not {α : Type} {f : Nat → α} : ∀ {M : List (Nat × α)} {j : Nat}, j ∉ M.map (·.1) → updl f M j = f j
  | [], j, _ => rfl
  | p :: M, j, h => by
    simp only [List.map_cons, List.mem_cons, not_or] at h
    simp only [updl]
    rw [upd_ne _ _ _ h.1, updl_not h.2]
theorem updl_mem {α : Type} {f : Nat → α} : ∀ {M : List (Nat × α)} {p : Nat × α}, (M.map (·.1)).Nodup → p ∈ M → updl f M p.1 = p.2
  | [], p, _, h => by simp at h
  | q :: M, p, hn, h => by
    simp only [List.map_cons, List.nodup_cons] at hn
    simp only [updl]
    rcases List.mem_cons.1 h with rfl | h
    · exact upd_same _ _ _
    · have hne : p.1 ≠ q.1 := fun e => hn.1 (e ▸ List.mem_map.2 ⟨p, h, rfl⟩)
      rw [upd_ne _ _ _ hne, updl_mem hn.2 h]
/-- The memory alone. -/
structure InvM (w0 : Base) (w : World) (G : Gh) (m : Nat → B) : Prop where
  below : Below w0.heap.size w0.toWorld w
  kold : ∀ b o, b < w0.heap.size → (G.K b o ↔ w0.K0 b o)
  kin : ∀ b o, G.K b o → b < w.heap.size
  mem : ∀ id, InvB w0 w G m id (m id)
  disj : ∀ id id', id ≠ id' → (m id).live → (m id').live → ∀ k, k ∈ G.F id → k ∉ G.F id'
theorem Inv.toM {w0 : Base} {s : St} {a : Act} {w : World} {G : Gh} (hi : Inv w0 s a w G) : InvM w0 w G s.m := ⟨hi.below, hi.kold, hi.kin, hi.mem, hi.disj⟩
def wfM (M : List (Nat × B)) : List (Nat × B) → Prop
  | [] => True
  | p :: l => wfB (updl (fun _ => .none) M) p.2 ∧ wfM M l
theorem wfM_at {M : List (Nat × B)} : ∀ {l : List (Nat × B)}, wfM M l → ∀ p, p ∈ l → wfB (updl (fun _ => .none) M) p.2
  | [], _, p, h => by simp at h
  | q :: l, h, p, hp => by
    simp only [wfM] at h
    rcases List.mem_cons.1 hp with rfl | hp
    · exact h.1
    · exact wfM_at h.2 p hp
/-- What is plain to see of such a contract. -/
structure StatW (args : List S) (M : List (Nat × B)) (V : S) (M' : List (Nat × B)) : Prop where
  n1 : (keysM M).Nodup
  n2 : (keysM M').Nodup
  w1 : S.wfs (updl (fun _ => .none) M) args
  w2 : wfM M M
  w3 : V.wf (updl (fun _ => .none) M')
  w4 : wfM M' M'
/-- Called with these values, over this memory of the caller's own, the function returns that value and leaves that memory; nothing else turns. -/
def AW (P : Program) (f : FuncId) (args : List S) (M : List (Nat × B)) (V : S) (M' : List (Nat × B)) : Prop :=
  (∃ fn, P.funcs[f]? = some fn ∧ fn.body.isSome = true ∧ fn.name ≠ "runtime.NumGoroutine") ∧ StatW args M V M' ∧
  ∀ (w0 : Base) (w : World) (G : Gh) (cs : List Value), InvM w0 w G (fM (keysM M) M) → RdSs w G args cs →
    Calls P f cs.toArray w fun e w' => ∃ c G', e = .returned c ∧ RdS w' G' V c ∧ InvM w0 w' G' (fM (keysM M) M')
def preM (m : Nat → B) : List (Nat × B) → Prop
  | [] => True
  | p :: l => (m p.1 = p.2 ∧ p.1 ≠ 9 ∧ p.2.okM = true) ∧ preM m l
def postM (m : Nat → B) (ks : List Nat) : List (Nat × B) → Prop
  | [] => True
  | p :: l => (p.1 ≠ 9 ∧ p.2.okM = true ∧ (p.1 ∈ ks ∨ m p.1 = .none)) ∧ postM m ks l
theorem preM_at {m : Nat → B} : ∀ {l : List (Nat × B)}, preM m l → ∀ p, p ∈ l → m p.1 = p.2 ∧ p.1 ≠ 9 ∧ p.2.okM = true
  | [], _, p, h => by simp at h
  | q :: l, h, p, hp => by
    simp only [preM] at h
    rcases List.mem_cons.1 hp with rfl | hp
    · exact h.1
    · exact preM_at h.2 p hp
theorem postM_at {m : Nat → B} {ks : List Nat} : ∀ {l : List (Nat × B)}, postM m ks l → ∀ p, p ∈ l → p.1 ≠ 9 ∧ p.2.okM = true ∧ (p.1 ∈ ks ∨ m p.1 = .none)
  | [], _, p, h => by simp at h
  | q :: l, h, p, hp => by
    simp only [postM] at h
    rcases List.mem_cons.1 hp with rfl | hp
    · exact h.1
    · exact postM_at h.2 p hp
theorem InvB.conv {w0 w1 : Base} {w : World} {G G1 : Gh} {m m1 : Nat → B} {id : Nat} {x : B} (hw : w1.toWorld = w0.toWorld) (hx : x.okM = true) (hK : G1.K = G.K) (hF : G1.F id = G.F id) (hbx : G1.bx id = G.bx id) (htv : G1.tv id = G.tv id) (hov : G1.ov id = G.ov id) (htl : G1.tl id = G.tl id)
    (hrd : ∀ cells, x = .box cells → S.wfs m1 cells ∧ ∀ cs, RdSs w G cells cs → RdSs w G1 cells cs) (h : InvB w0 w G m id x) : InvB w1 w G1 m1 id x := by
  cases x with
  | none => trivial
  | dead => trivial
  | frm ids => simp [B.okM] at hx
  | box cells =>
    obtain ⟨h1, h2⟩ := hrd cells rfl
    simp only [InvB] at h ⊢
    obtain ⟨a1, a2, a3, a4, cs, e, a5, a6, a7⟩ := h
    rw [hF, hbx, hK, hw]
    exact ⟨a1, a2, a3, h1, cs, e, a5, h2 _ a6, a7⟩
  | tip deep e n es => simp only [InvB] at h ⊢; rw [hF, htv, htl, hK, hw]; exact h
  | tok y => simp only [InvB] at h ⊢; rw [hF, hov, hK, hw]; exact h
  | arr deep e n es => simp only [InvB] at h ⊢; rw [hF, hov, hbx, hK, hw]; exact h
theorem okM_ne {x : B} (h : x.okM = true) : x ≠ .none := fun e => by subst e; simp [B.okM] at h
section
variable {P : Program} {w0 : Base} {w : World} {G : Gh} {s : St} {a : Act} {o : Oper} {K : Act → World → Prop} {Q : Exit → Act → World → Prop}
theorem Inv.callW (hi : Inv w0 s a w G) (dst : Option Tmp) {args : List S} {M : List (Nat × B)} {V : S} {M' : List (Nat × B)} {rr : List Nat} (hs : StatW args M V M') (hpre : preM s.m M) (hpost : postM s.m (keysM M) M') {cs : List Value} (hr : RdSs w G args cs) :
    ∃ w1 : Base, ∃ G1, InvM w1 w G1 (fM (keysM M) M) ∧ RdSs w G1 args cs ∧ ∀ c w' G', RdS w' G' V c → InvM w1 w' G' (fM (keysM M) M') → ∃ G'', Inv w0 (s.app dst ⟨V, M', rr⟩) (a.put dst c) w' G'' := by
  classical
  obtain ⟨n1, n2, s1, s2, s3, s4⟩ := hs
  have hpre := preM_at hpre
  have hpost := postM_at hpost
  let frL : List Nat := (List.range w.heap.size).filter fun k => decide (w0.heap.size ≤ k ∧ ∀ p, p ∈ M → (s.m p.1).live → k ∉ G.F p.1)
  have hfr : ∀ k, k ∈ frL ↔ k < w.heap.size ∧ w0.heap.size ≤ k ∧ ∀ p, p ∈ M → (s.m p.1).live → k ∉ G.F p.1 := fun k => by simp [frL]
  let w1 : Base := { toWorld := w0.toWorld, K0 := w0.K0, glob := w0.glob, fr := frL, fw := w, fG := G }
  let G1 : Gh := { G with F := upd G.F 9 frL }
  have hk1 : ∀ m : Nat → B, Keep m w G w G1 := fun m => ⟨fun b o h => ⟨h, rfl⟩, fun _ _ => rfl, fun _ _ => rfl, fun _ _ => .inl ⟨rfl, rfl⟩⟩
  have at9 : ∀ M0 : List (Nat × B), fM (keysM M) M0 9 = .frm (keysM M) := fun M0 => upd_same _ _ _
  have atne : ∀ (M0 : List (Nat × B)) (j : Nat), j ≠ 9 → fM (keysM M) M0 j = updl (fun _ => B.none) M0 j := fun M0 j h => upd_ne _ _ _ h
  have inK : ∀ {M0 : List (Nat × B)} {j : Nat}, j ∈ keysM M0 → ∃ p, p ∈ M0 ∧ p.1 = j := fun {M0 j} h => by obtain ⟨p, hp, e⟩ := List.mem_map.1 h; exact ⟨p, hp, e⟩
  have hI1 : InvM w1 w G1 (fM (keysM M) M) := by
    refine ⟨hi.below, hi.kold, hi.kin, fun id => ?_, fun i j hij hl hl' k hk hk' => ?_⟩
    · by_cases h9 : id = 9
      · subst h9
        rw [at9]
        simp only [InvB]
        refine ⟨(show G1.F 9 = frL from upd_same G.F 9 frL), Nat.le_refl _, fun k hk => ?_, fun b o h => ⟨h, rfl⟩, fun i hi' => ?_⟩
        · have := (hfr k).1 hk
          exact ⟨this.2.1, this.1, rfl, fun o => Iff.rfl⟩
        · obtain ⟨p, hp, rfl⟩ := inK hi'
          obtain ⟨h1, h2, h3⟩ := hpre p hp
          exact ⟨by rw [atne M _ h2, updl_mem n1 hp]; exact okM_ne h3, rfl, rfl, .inl ⟨rfl, rfl⟩⟩
      · rw [atne M _ h9]
        by_cases hin : id ∈ keysM M
        · obtain ⟨p, hp, rfl⟩ := inK hin
          obtain ⟨h1, h2, h3⟩ := hpre p hp
          rw [updl_mem n1 hp]
          have hB := hi.mem p.1
          rw [h1] at hB
          refine InvB.conv (w0 := w0) (w1 := w1) (G := G) (G1 := G1) rfl h3 rfl (upd_ne G.F 9 frL h2) rfl rfl rfl rfl (fun cells hc => ?_) hB
          have hw := wfM_at s2 p hp
          rw [hc] at hw
          have hw' : S.wfs (fM (keysM M) M) cells := S.wfs.mono (m := updl (fun _ => B.none) M) (fun i hne => by
            by_cases e : i = 9
            · subst e; rw [at9]; exact fun h => by cases h
            · rw [atne M i e]; exact hne) hw
          exact ⟨hw', fun cs hcs => hcs.keep (hk1 _) hw'⟩
        · rw [updl_not hin]; trivial
    · have F9 : ∀ j, j ≠ 9 → G1.F j = G.F j := fun j h => upd_ne _ _ _ h
      have foot : ∀ j, j ≠ 9 → (fM (keysM M) M j).live → ∃ p, p ∈ M ∧ p.1 = j ∧ (s.m j).live := fun j h hl => by
        rw [atne M j h] at hl
        by_cases hin : j ∈ keysM M
        · obtain ⟨p, hp, rfl⟩ := inK hin
          rw [updl_mem n1 hp] at hl
          exact ⟨p, hp, rfl, by rw [(hpre p hp).1]; exact hl⟩
        · rw [updl_not hin] at hl; exact hl.elim
      by_cases hi9 : i = 9
      · subst hi9
        have hj9 : j ≠ 9 := fun e => hij e.symm
        obtain ⟨p, hp, rfl, hlp⟩ := foot j hj9 hl'
        rw [F9 _ hj9] at hk'
        exact ((hfr k).1 (by simpa only [G1, upd_same] using hk)).2.2 p hp hlp hk'
      · obtain ⟨p, hp, rfl, hlp⟩ := foot i hi9 hl
        rw [F9 _ hi9] at hk
        by_cases hj9 : j = 9
        · subst hj9
          exact ((hfr k).1 (by simpa only [G1, upd_same] using hk')).2.2 p hp hlp hk
        · obtain ⟨q, hq, rfl, hlq⟩ := foot j hj9 hl'
          rw [F9 _ hj9] at hk'
          exact hi.disj _ _ hij hlp hlq k hk hk'
  have hw1 : S.wfs (fun _ => B.dead) args := S.wfs.mono (m := updl (fun _ => B.none) M) (fun _ _ h => by cases h) s1
  refine ⟨w1, G1, hI1, hr.keep (hk1 _) hw1, fun c w' G' hv hM2 => ?_⟩
  have hf := hM2.mem 9
  rw [at9] at hf
  simp only [InvB] at hf
  obtain ⟨f1, f2, f3, f4, f5⟩ := hf
  have sub : ∀ i, i ∈ keysM M → i ∈ keysM M' := fun i h => by
    apply Decidable.byContradiction
    intro hn
    obtain ⟨p, hp, rfl⟩ := inK h
    have := (f5 _ h).1
    rw [atne M' _ (hpre p hp).2.1, updl_not hn] at this
    exact this rfl
  let G'' : Gh := { K := G'.K, F := fun j => if j ∈ keysM M' then G'.F j else G.F j, bx := fun j => if j ∈ keysM M' then G'.bx j else G.bx j, tv := fun j => if j ∈ keysM M' then G'.tv j else G.tv j, ov := fun j => if j ∈ keysM M' then G'.ov j else G.ov j, tl := fun j => if j ∈ keysM M' then G'.tl j else G.tl j }
  have k9 : ∀ j, j ∈ keysM M' → j ≠ 9 := fun j h => by obtain ⟨p, hp, rfl⟩ := inK h; exact (hpost p hp).1
  have upM : ∀ j, j ∈ keysM M' → upds s.m M' j = updl (fun _ => B.none) M' j := fun j h => by
    obtain ⟨p, hp, rfl⟩ := inK h
    rw [upds_mem M' s.m p n2 hp, updl_mem n2 hp]
  have upN : ∀ j, j ∉ keysM M' → upds s.m M' j = s.m j := fun j h => upds_not M' s.m j h
  have old : ∀ j, s.m j ≠ .none → j ∈ keysM M' → j ∈ keysM M := fun j h hin => by
    obtain ⟨p, hp, rfl⟩ := inK hin
    exact (hpost p hp).2.2.resolve_right h
  have hk : Keep s.m w G w' G'' := by
    refine ⟨fun b o h => f4 b o h, fun j h => ?_, fun j h => ?_, fun j h => ?_⟩
    · by_cases hin : j ∈ keysM M'
      · simp only [G'', if_pos hin]; exact (f5 j (old j h hin)).2.1
      · simp only [G'', if_neg hin]
    · by_cases hin : j ∈ keysM M'
      · simp only [G'', if_pos hin]; exact (f5 j (old j h hin)).2.2.1
      · simp only [G'', if_neg hin]
    · by_cases hin : j ∈ keysM M'
      · simp only [G'', if_pos hin]; exact (f5 j (old j h hin)).2.2.2
      · simp only [G'', if_neg hin]; exact .inl ⟨trivial, trivial⟩
  have hkn : Keep (updl (fun _ => B.none) M') w' G' w' G'' := by
    have e : ∀ j, updl (fun _ => B.none) M' j ≠ .none → j ∈ keysM M' := fun j h => by
      apply Decidable.byContradiction
      intro hn
      rw [updl_not hn] at h
      exact h rfl
    refine ⟨fun b o h => ⟨h, rfl⟩, fun j h => ?_, fun j h => ?_, fun j h => ?_⟩
    · simp only [G'', if_pos (e j h)]
    · simp only [G'', if_pos (e j h)]
    · simp only [G'', if_pos (e j h)]; exact .inl ⟨trivial, trivial⟩
  have hmm : ∀ i, updl (fun _ => B.none) M' i ≠ .none → upds s.m M' i ≠ .none := fun i h => by
    by_cases hin : i ∈ keysM M'
    · rw [upM i hin]; exact h
    · rw [updl_not hin] at h; exact (h rfl).elim
  have hm : ∀ id, s.m id ≠ .none → upds s.m M' id ≠ .none := fun id h => by
    by_cases hin : id ∈ keysM M'
    · rw [upM id hin]
      have := (f5 id (old id h hin)).1
      rwa [atne M' id (k9 id hin)] at this
    · rw [upN id hin]; exact h
  have inFr : ∀ j, j ∉ keysM M' → (s.m j).live → ∀ k, k ∈ G.F j → k ∈ frL := fun j hn hl k hk' => by
    have hlt := hi.lt hl k hk'
    refine (hfr k).2 ⟨hlt.2, hlt.1, fun p hp hlp hkp => ?_⟩
    have hne : j ≠ p.1 := fun e => hn (e ▸ sub _ (List.mem_map.2 ⟨p, hp, rfl⟩))
    exact hi.disj j p.1 hne hl hlp k hk' hkp
  have hb : Below w0.heap.size w w' := by
    have h1 := hi.below
    have h2 : Below w0.heap.size w0.toWorld w' := hM2.below
    exact ⟨h2.os.trans h1.os.symm, h2.tape.trans h1.tape.symm, h2.output.trans h1.output.symm, f2, fun k hk' => (h2.block k hk').trans (h1.block k hk').symm⟩
  refine ⟨G'', hi.step dst (upds s.m M') hb (fun b o h => (hM2.kold b o h).trans (hi.kold b o h).symm) hk hm hM2.kin (fun id => ?_) (fun i j hij hl hl' k hk1' hk2' => ?_) (RdS.keep hkn s3 hv) (s3.mono hmm)⟩
  · by_cases hin : id ∈ keysM M'
    · right
      obtain ⟨p, hp, rfl⟩ := inK hin
      have hB := hM2.mem p.1
      rw [atne M' _ (hpost p hp).1, updl_mem n2 hp] at hB
      rw [upM _ hin, updl_mem n2 hp]
      refine InvB.conv (w0 := w1) (w1 := w0) (G := G') (G1 := G'') rfl (hpost p hp).2.1 rfl (by simp only [G'', if_pos hin]) (by simp only [G'', if_pos hin]) (by simp only [G'', if_pos hin]) (by simp only [G'', if_pos hin]) (by simp only [G'', if_pos hin]) (fun cells hc => ?_) hB
      have hw := wfM_at s4 p hp
      rw [hc] at hw
      exact ⟨S.wfs.mono hmm hw, fun cs hcs => hcs.keep hkn hw⟩
    · left
      refine ⟨upN id hin, fun hl => ⟨fun k hk' => ?_, by simp only [G'', if_neg hin], by simp only [G'', if_neg hin], by simp only [G'', if_neg hin]⟩⟩
      have := f3 k (inFr id hin hl k hk')
      exact ⟨this.2.2.1, this.2.2.2⟩
  · have lv : ∀ j, j ∈ keysM M' → (upds s.m M' j).live → (fM (keysM M) M' j).live := fun j h hl => by rw [atne M' j (k9 j h), ← upM j h]; exact hl
    have l9 : (fM (keysM M) M' 9).live := by rw [at9]; trivial
    by_cases hin : i ∈ keysM M'
    · by_cases hjn : j ∈ keysM M'
      · simp only [G'', if_pos hin] at hk1'
        simp only [G'', if_pos hjn] at hk2'
        exact hM2.disj i j hij (lv i hin hl) (lv j hjn hl') k hk1' hk2'
      · simp only [G'', if_pos hin] at hk1'
        simp only [G'', if_neg hjn] at hk2'
        rw [upN j hjn] at hl'
        exact hM2.disj i 9 (k9 i hin) (lv i hin hl) l9 k hk1' (by rw [f1]; exact inFr j hjn hl' k hk2')
    · by_cases hjn : j ∈ keysM M'
      · simp only [G'', if_neg hin] at hk1'
        simp only [G'', if_pos hjn] at hk2'
        rw [upN i hin] at hl
        exact hM2.disj j 9 (k9 j hjn) (lv j hjn hl') l9 k hk2' (by rw [f1]; exact inFr i hin hl k hk1')
      · simp only [G'', if_neg hin] at hk1'
        simp only [G'', if_neg hjn] at hk2'
        rw [upN i hin] at hl
        rw [upN j hjn] at hl'
        exact hi.disj i j hij hl hl' k hk1' hk2'
theorem wp_callw {f : Operand} {xs : Array Operand} {ts : Array TypeId} {g : FuncId} {first caps args : List S} {V : S} {M M' : List (Nat × B)} {rr : List Nat} (ho : o.op = .call { callee := .value f, args := xs, argTypes := ts }) (hf : s.ev f = .f (.func g) first caps)
    (ha : LeSs (first ++ xs.toList.map s.ev ++ caps) args) (hc : AW P g args M V M') (hpre : preM s.m M) (hpost : postM s.m (keysM M) M')
    (hi : Inv w0 s a w G) (hK : ∀ v w' G', Inv w0 (s.app o.dst ⟨V, M', rr⟩) (a.put o.dst v) w' G' → K (a.put o.dst v) w') : o.wp P a w K Q := by
  have h1 := (hi.ev f).1
  rw [hf] at h1
  simp only [RdS] at h1
  obtain ⟨u, v, h2, h3, h4⟩ := h1
  have h5 : ∀ l : List Operand, RdSs w G (l.map s.ev) (l.map a.eval) := by
    intro l
    induction l with
    | nil => simp only [List.map_nil, RdSs]
    | cons x l ih => simp only [List.map_cons, RdSs]; exact ⟨_, _, rfl, (hi.ev x).1, ih⟩
  have h6 := ha.rd ((h3.app (h5 xs.toList)).app h4)
  obtain ⟨⟨fn, h7, h8, h9⟩, hst, hcall⟩ := hc
  obtain ⟨w1, G1, h10, h11, h12⟩ := hi.callW o.dst (rr := rr) hst hpre hpost h6
  have h13 := hcall w1 w G1 _ h10 h11
  unfold Oper.wp
  have hexec : (execOp a.eval o).run P w = .ok (.enter g ((u ++ xs.toList.map a.eval ++ v).toArray)) w := by
    have e1 : u.toArray ++ (xs.map a.eval ++ v.toArray) = (u ++ (xs.toList.map a.eval ++ v)).toArray := by
      apply Array.toList_inj.1
      simp
    have hb : ¬ fn.body = none := by cases hh : fn.body <;> simp_all
    simp [execOp, ho, resolve, h2, Deferred.ofValue, invoke, callFunc, h7, h9, hb, e1]
  rw [hexec, Oper.upon_enter]
  refine h13.mono ?_
  rintro e w' ⟨c, G', rfl, hr, hM⟩
  obtain ⟨G'', h14⟩ := h12 c w' G' hr hM
  exact hK c w' G'' h14
end
end Go.Proofs.Ytpcjhnbifgjleaa.Ab

/- One operation: what it does to the state, and that the model does so. -/
namespace Go.Proofs.Ytpcjhnbifgjleaa.Ab
set_option linter.unusedSectionVars false
set_option linter.unusedSimpArgs false
set_option linter.constructorNameAsVariable false
open Go.RowKit
set_option linter.unusedVariables false
set_option maxRecDepth 100000
set_option linter.unusedSectionVars false

/-- What an element type must have told of it, for a slice literal or an append. -/
structure ElOk (P : Program) (t e : TypeId) (n bytes : Nat) : Prop where
  ht : P.underlying t = some (.slice e)
  ie : ∃ ie z, P.info? e = some ie ∧ ie.zero = some z ∧ ie.size = n ∧ ie.bytes = bytes ∧ z.cells.size = n ∧ (∀ y, y ∈ z.cells.toList → y.oneCell' = true) ∧ 0 < n

/-- Operation 'o', whose own number is 'id', does this. -/
inductive Stp (P : Program) (o : Oper) (id : Nat) (ev : Operand → S) (m : Nat → B) : Rec → Prop
  | pure (V : S) (h : evP P o ev = some V) : Stp P o id ev m ⟨V, [], []⟩
  | build (t : TypeId) (parts : Array (Nat × Operand)) (V : S) (ho : o.op = .build t parts) (h : buildS P t parts.toList ev = some V) : Stp P o id ev m ⟨V, [], []⟩
  | box (e : TypeId) (x : Operand) (cells : List S) (ho : o.op = .box e x) (hx : (ev x).cells? = some cells) (hm : m id = .none) : Stp P o id ev m ⟨.p id 0, [(id, .box cells)], []⟩
  | alloc (e : TypeId) (z : List S) (ho : o.op = .alloc e) (hz : zeroCells? P e = some z) (hm : m id = .none) : Stp P o id ev m ⟨.p id 0, [(id, .box z)], []⟩
  | load (t : TypeId) (x : Operand) (j k : Nat) (cells : List S) (V : S) (ho : o.op = .load t x) (hx : ev x = .p j k) (hj : m j = .box cells) (hV : loadS P t cells k = some V) : Stp P o id ev m ⟨V, [], [j]⟩
  | loadq (t : TypeId) (x : Operand) (j n i k : Nat) (deep : Bool) (e : TypeId) (es : List (List D)) (el : List D) (V : S) (ho : o.op = .load t x) (hx : ev x = .q j n i k) (hj : m j = .arr deep e n es) (hel : es[i]? = some el)
      (hV : loadS P t (el.map S.d) k = some V) : Stp P o id ev m ⟨V, [], [j]⟩
  | store (t : TypeId) (x y : Operand) (j k : Nat) (cells vs : List S) (ho : o.op = .store t x y) (hx : ev x = .p j k) (hj : m j = .box cells) (hy : (ev y).cells? = some vs) (hl : k + vs.length ≤ cells.length)
      (ht : (P.info? t).map (·.size) = some vs.length) : Stp P o id ev m ⟨.u, [(j, .box (setMany cells k vs))], []⟩
  | storeq (t : TypeId) (x y : Operand) (j n i k : Nat) (deep deep' : Bool) (e : TypeId) (es : List (List D)) (el ds : List D) (vs : List S) (con : List Nat) (ho : o.op = .store t x y) (hx : ev x = .q j n i k) (hj : m j = .arr deep e n es) (hel : es[i]? = some el)
      (hy : (ev y).cells? = some vs) (hds : toDs vs = some ds) (hl : k + ds.length ≤ el.length) (ht : (P.info? t).map (·.size) = some ds.length) (hdeep : if deep' = true then deep = true ∧ ownIds m vs = some con ∧ sameD m vs ∧ con.Nodup else con = []) (hjc : j ∉ con) :
      Stp P o id ev m ⟨.u, (j, .arr deep' e n (es.set i (setMany el k ds))) :: kill con, []⟩
  | lenm (x : Operand) (t e' : TypeId) (j n : Nat) (deep : Bool) (e : TypeId) (es : List (List D)) (ho : o.op = .call { callee := .builtin .len, args := #[x], argTypes := #[t] }) (ht : P.underlying t = some (.slice e')) (hx : ev x = .m j) (hj : m j = .arr deep e n es) :
      Stp P o id ev m ⟨.d (.v (.int .i64 es.length)), [], [j]⟩
  | idxm (x ix : Operand) (t : TypeId) (j n i : Nat) (k : IntKind) (deep : Bool) (e : TypeId) (inf : TypeInfo) (es : List (List D)) (ho : o.op = .indexAddr t x ix) (ht : P.underlying t = some (.slice e)) (hx : ev x = .m j) (hj : m j = .arr deep e n es)
      (hix : ev ix = .d (.v (.int k (i : Int)))) (hlt : i < es.length) (hinf : P.info? e = some inf) (hn : inf.size = n) : Stp P o id ev m ⟨.q j n i 0, [], [j]⟩
  | lit (t e : TypeId) (n bytes len : Nat) (parts : Array (Nat × Operand)) (ps : List (Nat × List S)) (out : List S) (ds : List D) (deep : Bool) (con : List Nat) (ho : o.op = .buildSlice t len parts) (hel : ElOk P t e n bytes) (hsm : len * n ≤ 16777216) (hps : partsS ev parts.toList = some ps)
      (hout : fillS (fun i => some (i * n, n)) (List.replicate (len * n) S.u) ps = some out) (hds : toDs out = some ds) (hm : m id = .none) (hdeep : if deep = true then ownIds m out = some con ∧ sameD m out ∧ con.Nodup else con = []) :
      Stp P o id ev m ⟨.g id (cut n len ds), (id, .tip deep e n (cut n len ds)) :: kill con, []⟩
  | make (t e : TypeId) (n bytes : Nat) (x y : Operand) (k1 k2 : IntKind) (l : Nat) (zs : List S) (ds : List D) (ho : o.op = .makeSlice t x y) (hel : ElOk P t e n bytes) (hzc : zeroCells? P e = some zs) (hds : toDs zs = some ds) (hfl : ∀ d, d ∈ ds → d.flat) (hs : ds.length = n)
      (hx : ev x = .d (.v (.int k1 (l : Int)))) (hy : ev y = .d (.v (.int k2 (l : Int)))) (hby : bytes * l ≤ 281474976710656) (h63 : l ≤ maxLen) (hm : m id = .none) : Stp P o id ev m ⟨.m id, [(id, .arr true e n (List.replicate l ds))], []⟩
  | app (x y : Operand) (t e : TypeId) (n bytes j : Nat) (d1 d2 deep : Bool) (es es2 : List (List D)) (con : List Nat) (ho : o.op = .call { callee := .builtin .append, args := #[x, y], argTypes := #[t, t] }) (hel : ElOk P t e n bytes) (hx : ev x = .g j es) (hj : m j = .tip d1 e n es)
      (hy : ((ev y).asL = some es2 ∧ (∀ e, e ∈ es2 → e.length = n) ∧ (d2 = true → ∀ e, e ∈ es2 → ∀ x, x ∈ e → x.flat) ∧ con = []) ∨ (∃ j2 e2, ev y = .g j2 es2 ∧ m j2 = .tip true e2 n es2 ∧ con = [j2]) ∨ (∃ j2, ev y = .o j2 (.sl es2) ∧ m j2 = .tok (.sl es2) ∧ (∀ e, e ∈ es2 → e.length = n) ∧ con = [j2]))
      (hd : deep = true → d1 = true ∧ d2 = true) (hjc : j ∉ con) (h63 : es.length + es2.length ≤ maxLen) (hby : (es.length + es2.length) * bytes ≤ 140737488355328) :
      Stp P o id ev m ⟨.g j (es ++ es2), (j, .tip deep e n (es ++ es2)) :: kill con, []⟩
  | appNil (x y : Operand) (t e : TypeId) (n bytes : Nat) (d2 : Bool) (es2 : List (List D)) (con : List Nat) (ho : o.op = .call { callee := .builtin .append, args := #[x, y], argTypes := #[t, t] }) (hel : ElOk P t e n bytes) (hx : ev x = .d (.v (.slice none 0 0))) (hm : m id = .none)
      (hy : ((ev y).asL = some es2 ∧ (∀ e, e ∈ es2 → e.length = n) ∧ (d2 = true → ∀ e, e ∈ es2 → ∀ x, x ∈ e → x.flat) ∧ con = []) ∨ (∃ j2 e2, ev y = .g j2 es2 ∧ m j2 = .tip true e2 n es2 ∧ con = [j2]) ∨ (∃ j2, ev y = .o j2 (.sl es2) ∧ m j2 = .tok (.sl es2) ∧ (∀ e, e ∈ es2 → e.length = n) ∧ con = [j2]))
      (hjc : id ∉ con) (h63 : es2.length ≤ maxLen) (hby : es2.length * bytes ≤ 140737488355328) : Stp P o id ev m ⟨.g id es2, (id, .tip d2 e n es2) :: kill con, []⟩
  | call (f : Operand) (xs : Array Operand) (ts : Array TypeId) (g : FuncId) (first caps args : List S) (V : S) (ho : o.op = .call { callee := .value f, args := xs, argTypes := ts }) (hf : ev f = .f (.func g) first caps)
      (ha : S.argl m (first ++ xs.toList.map ev ++ caps) = some args) (hc : AC P g args V) (hsol : V.solid ∨ S.readsl m (first ++ xs.toList.map ev ++ caps) = []) (hnone : ∀ p, p ∈ V.os → m (id + p.1) = .none) :
      Stp P o id ev m ⟨V.shift id, toks id V, S.readsl m (first ++ xs.toList.map ev ++ caps)⟩
  | callw (f : Operand) (xs : Array Operand) (ts : Array TypeId) (g : FuncId) (first caps args : List S) (V : S) (M M' : List (Nat × B)) (ho : o.op = .call { callee := .value f, args := xs, argTypes := ts }) (hf : ev f = .f (.func g) first caps)
      (ha : LeSs (first ++ xs.toList.map ev ++ caps) args) (hc : AW P g args M V M') (hpre : preM m M) (hpost : postM m (keysM M) M') : Stp P o id ev m ⟨V, M', keysM M⟩
section
variable {P : Program} {w0 : Base} {w w' : World} {G G' : Gh} {s : St} {a : Act} {o : Oper} {K : Act → World → Prop} {Q : Exit → Act → World → Prop}
theorem Stp.sound {id : Nat} {r : Rec} (h : Stp P o id s.ev s.m r) (hi : Inv w0 s a w G) (hK : ∀ v w' G', Inv w0 (s.app o.dst r) (a.put o.dst v) w' G' → K (a.put o.dst v) w') : o.wp P a w K Q := by
  have src : ∀ {y : Operand} {es2 : List (List D)} {n : Nat} {d2 : Bool} {con : List Nat}, ((s.ev y).asL = some es2 ∧ (∀ e, e ∈ es2 → e.length = n) ∧ (d2 = true → ∀ e, e ∈ es2 → ∀ x, x ∈ e → x.flat) ∧ con = []) ∨ (∃ j2 e2, s.ev y = .g j2 es2 ∧ s.m j2 = .tip true e2 n es2 ∧ con = [j2]) ∨
      (∃ j2, s.ev y = .o j2 (.sl es2) ∧ s.m j2 = .tok (.sl es2) ∧ (∀ e, e ∈ es2 → e.length = n) ∧ con = [j2]) → ∀ w0 a w G, Inv w0 s a w G → Src w G s n (a.eval y) es2 d2 con := by
    intro y es2 n d2 con h w0 a w G hi
    have weak : Src w G s n (a.eval y) es2 true con → Src w G s n (a.eval y) es2 d2 con := fun ⟨h1, A, c, xs, F, h2, h3, h4, h5, h6⟩ => ⟨h1, A, c, xs, F, h2, h3, h4, h5, fun _ => h6 rfl⟩
    rcases h with ⟨h1, h2, h3, rfl⟩ | ⟨j2, e2, h1, h2, rfl⟩ | ⟨j2, h1, h2, h3, rfl⟩
    · exact src_plain hi h1 h2 h3
    · exact weak (src_tip hi h1 h2)
    · exact weak (src_tok hi h1 h2 h3)
  cases h with
  | pure V h => rw [app_nil] at hK; exact wp_yields (evP_sound h hi) hi hK
  | build t parts V ho h => rw [app_nil] at hK; exact wp_yields (buildS_sound hi ho h) hi hK
  | box e x cells ho hx hm => exact wp_box ho hx hm hi hK
  | alloc e z ho hz hm => exact wp_alloc ho hz hm hi hK
  | load t x j k cells V ho hx hj hV => rw [app_nil] at hK; exact wp_load ho hx hj hV hi hK
  | loadq t x j n i k deep e es el V ho hx hj hel hV => rw [app_nil] at hK; exact wp_loadq ho hx hj hel hV hi hK
  | store t x y j k cells vs ho hx hj hy hl ht => exact wp_store ho hx hj hy hl ht hi hK
  | storeq t x y j n i k deep deep' e es el ds vs con ho hx hj hel hy hds hl ht hdeep hjc => exact wp_storeq ho hx hj hel hy hds hl ht hdeep hjc hi hK
  | lenm x t e' j n deep e es ho ht hx hj => rw [app_nil] at hK; exact wp_lenm ho ht hx hj hi hK
  | idxm x ix t j n i k deep e inf es ho ht hx hj hix hlt hinf hn => rw [app_nil] at hK; exact wp_idxm ho ht hx hj hix hlt hinf hn hi hK
  | lit t e n bytes len parts ps out ds deep con ho hel hsm hps hout hds hm hdeep =>
    obtain ⟨ht, ie, z, h1, h2, rfl, h4, h5, h6, h7⟩ := hel
    exact wp_lit ho ht h1 h2 h6 h5 h7 hsm hps hout hds hm hdeep hi hK
  | make t e n bytes x y k1 k2 l zs ds ho hel hzc hds hfl hs hx hy hby h63 hm =>
    obtain ⟨ht, ie, z, h1, h2, rfl, h4, h5, h6, h7⟩ := hel
    exact wp_make ho ht h1 h2 hzc hds hfl hs h7 hx hy (by rw [h4]; exact hby) h63 hm hi hK
  | app x y t e n bytes j d1 d2 deep es es2 con ho hel hx hj hy hd hjc h63 hby =>
    obtain ⟨ht, ie, z, h1, h2, h3, h4, h5, h6, h7⟩ := hel
    exact wp_append ho ht h1 h2 (by rw [h5, h3]) h3 hx hj (src hy) hd hjc h63 (by rw [h4]; exact hby) hi hK
  | appNil x y t e n bytes d2 es2 con ho hel hx hm hy hjc h63 hby =>
    obtain ⟨ht, ie, z, h1, h2, h3, h4, h5, h6, h7⟩ := hel
    exact wp_appendNil ho ht h1 h2 (by rw [h5, h3]) h3 h7 hx hm (src hy) hjc h63 (by rw [h4]; exact hby) hi hK
  | call f xs ts g first caps args V ho hf ha hc hsol hnone => exact wp_call ho hf ha hc hsol hnone hi hK
  | callw f xs ts g first caps args V M M' ho hf ha hc hpre hpost => exact wp_callw ho hf ha hc hpre hpost hi hK
end
end Go.Proofs.Ytpcjhnbifgjleaa.Ab

/- Regions in the order of their text, and whole functions. -/
namespace Go.Proofs.Ytpcjhnbifgjleaa.Ab
set_option linter.unusedSectionVars false
set_option linter.unusedSimpArgs false
set_option linter.constructorNameAsVariable false
open Go.RowKit
set_option linter.unusedVariables false
set_option maxRecDepth 100000
set_option linter.unusedSectionVars false

/-- What an earlier operation of the region has yielded, if that is known. -/
def St.said (s : St) (ops : List Oper) (j : Nat) : Option (Option Bool) :=
  match (ops[j]?).bind (·.dst) with
  | some d => match s.ev (.tmp d) with
    | .d (.v (.bool b)) => some (some b)
    | .t [] => some none
    | _ => none
  | none => some none
/-- Is the operation asked for? -/
def St.asked (s : St) (ops : List Oper) (o : Oper) : Option Bool :=
  match o.guard with
  | none => some true
  | some (j, want) => match s.said ops j with
    | some x => some (x == some want)
    | none => none
def St.step (s : St) (dst : Option Tmp) : Option Rec → St
  | some r => s.app dst r
  | none => s.put dst (.t [])
/-- One operation of a region. -/
def One (P : Program) (ops : List Oper) (o : Oper) (id : Nat) (s : St) : Option Rec → Prop
  | some r => s.asked ops o = some true ∧ Stp P o id s.ev s.m r
  | none => s.asked ops o = some false
/-- A region's run in the order of its text. -/
def Run (P : Program) (ops : List Oper) : List Oper → Nat → St → List (Option Rec) → St → Prop
  | [], _, s, rs, s' => rs = [] ∧ s' = s
  | o :: l, id, s, rs, s' => ∃ r rs', rs = r :: rs' ∧ One P ops o id s r ∧ Run P ops l (id + 16) (s.step o.dst r) rs' s'
section
variable {P : Program} {w0 : Base} {w w' : World} {G G' : Gh} {s : St} {a : Act} {o : Oper} {K : Act → World → Prop} {Q : Exit → Act → World → Prop}
theorem said_ok (hi : Inv w0 s a w G) {ops : List Oper} {j : Nat} {x : Option Bool} (h : s.said ops j = some x) : yielded ops.toArray a.tmps j = x := by
  unfold St.said at h
  unfold yielded
  simp only [List.getElem?_toArray]
  split at h
  · rename_i d hd
    rw [hd]
    simp only [Option.bind_some]
    have hev := (hi.ev (.tmp d)).1
    have hat : ∀ v, a.eval (.tmp d) = v → v ≠ undef → a.tmps[d]? = some v := fun v hv hne => by
      simp only [Act.eval, Array.getD_eq_getD_getElem?] at hv
      cases hx : a.tmps[d]? with
      | none => rw [hx] at hv; simp at hv; exact (hne hv.symm).elim
      | some u => rw [hx] at hv; simp at hv; rw [hv]
    split at h
    · rename_i b hb
      injection h with h
      rw [hb] at hev
      rw [hat _ hev.bool (by simp [undef])]
      exact h
    · rename_i hb
      injection h with h
      subst h
      rw [hb] at hev
      simp only [RdS, RdSs] at hev
      obtain ⟨cs, h1, rfl⟩ := hev
      cases hx : a.tmps[d]? with
      | none => rfl
      | some u =>
        simp only [Act.eval, Array.getD_eq_getD_getElem?, hx, Option.getD_some] at h1
        rw [h1]
    · cases h
  · rename_i hd
    injection h with h
    subst h
    rw [hd]
    rfl
theorem asked_ok (hi : Inv w0 s a w G) {ops : List Oper} {b : Bool} (h : s.asked ops o = some b) : Region.wanted o (yielded ops.toArray a.tmps) = b := by
  unfold St.asked at h
  unfold Region.wanted
  split at h
  · rename_i hg
    injection h with h
    rw [hg]
    exact h
  · rename_i j want hg
    rw [hg]
    split at h
    · rename_i x hx
      injection h with h
      simp only
      rw [said_ok hi hx]
      exact h
    · cases h
theorem Inv.skip (hi : Inv w0 s a w G) (dst : Option Tmp) : Inv w0 (s.put dst (.t [])) (a.put dst undef) w G :=
  hi.put dst (by simp only [RdS, RdSs]; exact ⟨[], rfl, rfl⟩) (by simp only [S.wf, S.wfs])
theorem Run.sound {ops : List Oper} : ∀ {l : List Oper} {id : Nat} {s : St} {rs : List (Option Rec)} {s' : St} {a : Act} {w : World} {G : Gh}, Run P ops l id s rs s' → Inv w0 s a w G →
    (∀ a' w' G', Inv w0 s' a' w' G' → Q .normal a' w') → wpList P ops.toArray Q l a w
  | [], id, s, rs, s', a, w, G, h, hi, hQ => by
    simp only [Run] at h
    obtain ⟨_, rfl⟩ := h
    exact hQ a w G hi
  | o :: l, id, s, rs, s', a, w, G, h, hi, hQ => by
    simp only [Run] at h
    obtain ⟨r, rs', _, h1, h2⟩ := h
    refine wpList_step fun K hK => ?_
    cases r with
    | some r =>
      simp only [One] at h1
      rw [if_pos (asked_ok hi h1.1)]
      exact h1.2.sound hi (fun v w' G' hi' => hK _ _ (Run.sound h2 hi' hQ))
    | none =>
      simp only [One] at h1
      rw [if_neg (by rw [asked_ok hi h1]; exact Bool.false_ne_true)]
      exact hK _ _ (Run.sound h2 (hi.skip o.dst) hQ)
theorem Inv.nx (hi : Inv w0 s a w G) (n : Nat) : Inv w0 { s with nx := n } a w G := ⟨hi.below, hi.defers, hi.size, hi.slots, hi.kold, hi.kin, hi.mem, hi.disj⟩
/-- A region in the order of its text. -/
theorem Ab.region {id : Nat} {ops : List Oper} {Q : Exit → St → Prop} {rs : List (Option Rec)} {s' : St} (h : Run P ops ops s.nx s rs s') (hQ : Q .normal { s' with nx := s.nx + 16 * ops.length }) : Ab P (.region id ops.toArray false) Q s := by
  intro w0 a w G hi
  refine wp_region_lit (h.sound hi (fun a' w' G' hi' => ⟨_, G', hQ, hi'.nx _⟩))

/-- What a function's result variables hold. -/
def resS (P : Program) (s : St) : ResultVar → Option S
  | .tmp t => some (s.ev (.tmp t))
  | .cell x t => match s.ev (.tmp x) with
    | .p j k => match s.m j with
      | .box cells => loadS P t cells k
      | _ => none
    | _ => none
def resL (P : Program) (s : St) : List ResultVar → Option (List S)
  | [] => some []
  | r :: l => match resS P s r, resL P s l with
    | some x, some y => some (x :: y)
    | _, _ => none
mutual
def finIds : S → S → List (Nat × Nat)
  | .o j _, .o k _ => [(k, j)]
  | .g j _, .o k _ => [(k, j)]
  | .m j, .o k _ => [(k, j)]
  | .a l, .a l' => finIdl l l'
  | .t l, .t l' => finIdl l l'
  | _, _ => []
def finIdl : List S → List S → List (Nat × Nat)
  | x :: l, y :: l' => finIds x y ++ finIdl l l'
  | _, _ => []
end
mutual
/-- What is held is what is to come back. -/
def finOk (m : Nat → B) : S → S → Prop
  | _, .u => True
  | .o j x, .o _ y => m j = .tok x ∧ x = y
  | .g j es, .o _ y => (∃ e n, m j = .tip true e n es) ∧ .sl es = y
  | .m j, .o _ y => ∃ e n es, m j = .arr true e n es ∧ .sl es = y
  | .d (.v (.slice none 0 0)), .o _ y => y = .sl []
  | .a l, .a l' => finOkl m l l'
  | .t l, .t l' => finOkl m l l'
  | x, .d y => x.toDm m = some y
  | _, _ => False
def finOkl (m : Nat → B) : List S → List S → Prop
  | [], [] => True
  | x :: l, y :: l' => finOk m x y ∧ finOkl m l l'
  | _, _ => False
end
end
end Go.Proofs.Ytpcjhnbifgjleaa.Ab

/- A function's contract, from its body. -/
namespace Go.Proofs.Ytpcjhnbifgjleaa.Ab
set_option linter.unusedSectionVars false
set_option linter.unusedSimpArgs false
set_option linter.constructorNameAsVariable false
open Go.RowKit
set_option linter.unusedVariables false
set_option maxRecDepth 100000
set_option linter.unusedSectionVars false

mutual
theorem ov_congr {w : World} {K : Nat → Nat → Prop} {ov ov' : Nat → Value} : ∀ {V : S} {c : Value}, V.res → (∀ p, p ∈ V.os → ov p.1 = ov' p.1) → RdS w (ghA K ov) V c → RdS w (ghA K ov') V c
  | .u, c, _, _, _ => by simp only [RdS]
  | .d x, c, _, _, h => by simpa only [RdS, ghA] using h
  | .o k x, c, _, ho, h => by
    simp only [RdS, ghA] at h ⊢
    have := ho (k, x) (by simp [S.os])
    simp only at this
    rw [← this]
    exact h
  | .a l, c, hv, ho, h => by
    simp only [S.res] at hv
    simp only [RdS] at h ⊢
    obtain ⟨cs, h1, h2, h3⟩ := h
    exact ⟨cs, h1, ovs_congr hv (by simpa only [S.os] using ho) h2, h3⟩
  | .t l, c, hv, ho, h => by
    simp only [S.res] at hv
    simp only [RdS] at h ⊢
    obtain ⟨cs, h1, h2⟩ := h
    exact ⟨cs, h1, ovs_congr hv (by simpa only [S.os] using ho) h2⟩
  | .p _ _, c, hv, _, _ => by simp only [S.res] at hv
  | .e _ _, c, hv, _, _ => by simp only [S.res] at hv
  | .g _ _, c, hv, _, _ => by simp only [S.res] at hv
  | .f _ _ _, c, hv, _, _ => by simp only [S.res] at hv
  | .m _, c, hv, _, _ => by simp only [S.res] at hv
  | .q _ _ _ _, c, hv, _, _ => by simp only [S.res] at hv
theorem ovs_congr {w : World} {K : Nat → Nat → Prop} {ov ov' : Nat → Value} : ∀ {V : List S} {c : List Value}, S.ress V → (∀ p, p ∈ S.oss V → ov p.1 = ov' p.1) → RdSs w (ghA K ov) V c → RdSs w (ghA K ov') V c
  | [], c, _, _, h => by simpa only [RdSs] using h
  | x :: l, c, hv, ho, h => by
    simp only [S.ress] at hv
    simp only [RdSs] at h ⊢
    obtain ⟨c1, c2, h1, h2, h3⟩ := h
    exact ⟨c1, c2, h1, ov_congr hv.1 (fun p hp => ho p (by simp [S.oss, hp])) h2, ovs_congr hv.2 (fun p hp => ho p (by simp [S.oss, hp])) h3⟩
end
/-- What the frame's own data become for the caller. -/
structure FinRd (w : World) (G : Gh) (m : Nat → B) (ids : List (Nat × Nat)) (os : List (Nat × D)) (F : Nat → List Nat) (ov : Nat → Value) : Prop where
  own : ∀ p, p ∈ os → OwnD w p.2 (F p.1) (ov p.1)
  at_ : ∀ p, p ∈ os → F p.1 = [] ∨ ∃ j, (p.1, j) ∈ ids ∧ F p.1 = G.F j ∧ (m j).live
section
variable {w0 : Base} {w : World} {G : Gh} {s : St} {a : Act}
mutual
theorem fin_rd (hi : Inv w0 s a w G) {K : Nat → Nat → Prop} (hK : ∀ b o, b < w.heap.size → (G.K b o ∨ w0.heap.size ≤ b) → K b o) : ∀ {x V : S} {c : Value}, finOk s.m x V → V.res → (V.os.map (·.1)).Nodup → RdS w G x c → ∃ F ov, RdS w (ghA K ov) V c ∧ FinRd w G s.m (finIds x V) V.os F ov
  | x, .u, c, h, _, _, hr => ⟨fun _ => [], fun _ => .nilIface, by simp only [RdS], ⟨by simp [S.os], by simp [S.os]⟩⟩
  | x, .o k y, c, h, _, _, hr => by
    have fin : ∀ (j : Nat), (k, j) ∈ finIds x (.o k y) → OwnD w y (G.F j) c → (s.m j).live → ∃ F ov, RdS w (ghA K ov) (.o k y) c ∧ FinRd w G s.m (finIds x (.o k y)) (S.os (.o k y)) F ov := fun j hj ho hl => by
      refine ⟨fun _ => G.F j, fun _ => c, ?_, ⟨fun p hp => ?_, fun p hp => ?_⟩⟩
      · simp only [RdS, ghA]
        exact ⟨ho.rd (fun b hb o => hK b o (hi.lt hl b hb).2 (.inr (hi.lt hl b hb).1)), trivial⟩
      · simp only [S.os, List.mem_singleton] at hp
        subst hp
        exact ho
      · simp only [S.os, List.mem_singleton] at hp
        subst hp
        exact .inr ⟨j, hj, rfl, hl⟩
    cases x with
    | o j z =>
      simp only [finOk] at h
      obtain ⟨h1, rfl⟩ := h
      exact fin j (by simp [finIds]) (hi.ownD_tok h1 hr) (by rw [h1]; trivial)
    | g j es =>
      simp only [finOk] at h
      obtain ⟨⟨e, n, h1⟩, rfl⟩ := h
      exact fin j (by simp [finIds]) (hi.ownD_tip h1 hr) (by rw [h1]; trivial)
    | m j =>
      simp only [finOk] at h
      obtain ⟨e, n, es, h1, rfl⟩ := h
      exact fin j (by simp [finIds]) (hi.ownD_arr h1 hr) (by rw [h1]; trivial)
    | d z =>
      unfold finOk at h
      split at h <;> first | exact h.elim | skip
      all_goals (try (rename_i heq1 heq2; cases heq1; done))
      all_goals (try (rename_i heq1 heq2; cases heq2; done))
      all_goals first
        | (rename_i heq1 heq2
           injection heq1 with heq1
           injection heq2 with hq1 hq2
           subst heq1
           subst hq2
           subst h
           refine ⟨fun _ => [], fun _ => c, ?_, ⟨fun p hp => ?_, fun p hp => .inl rfl⟩⟩
           · simp only [RdS, ghA]
             rw [hr.val]
             exact ⟨nil_rd (G := ghA K fun _ => c), trivial⟩
           · simp only [S.os, List.mem_singleton] at hp
             subst hp
             rw [hr.val]
             simp only [OwnD]
             exact ⟨none, 0, 0, [], rfl, by simp, by simp [maxLen], .inl (by simp)⟩)
    | _ => simp only [finOk] at h
  | x, .d y, c, h, _, _, hr => by
    have key : x.toDm s.m = some y → ∃ F ov, RdS w (ghA K ov) (.d y) c ∧ FinRd w G s.m (finIds x (.d y)) (S.os (.d y)) F ov := fun h => by
      refine ⟨fun _ => [], fun _ => .nilIface, ?_, ⟨by simp [S.os], by simp [S.os]⟩⟩
      simp only [RdS, ghA]
      exact toDm_rd (K := K) hi (fun b o hb => hK b o (hi.kin b o hb) (.inl hb)) (fun j hj hb hb0 o => hK _ o hb (.inr hb0)) h hr
    unfold finOk at h
    exact key h
  | x, .a l', c, h, hv, hn, hr => by
    cases x with
    | a l =>
      simp only [finOk] at h
      simp only [S.res] at hv
      simp only [S.os] at hn
      simp only [RdS] at hr
      obtain ⟨cs, h1, h2, h3⟩ := hr
      obtain ⟨F, ov, h4, h5⟩ := finl_rd hi hK h hv hn h2
      exact ⟨F, ov, by simp only [RdS]; exact ⟨cs, h1, h4, h3⟩, by simpa only [finIds, S.os] using h5⟩
    | _ => simp only [finOk] at h
  | x, .t l', c, h, hv, hn, hr => by
    cases x with
    | t l =>
      simp only [finOk] at h
      simp only [S.res] at hv
      simp only [S.os] at hn
      simp only [RdS] at hr
      obtain ⟨cs, h1, h2⟩ := hr
      obtain ⟨F, ov, h4, h5⟩ := finl_rd hi hK h hv hn h2
      exact ⟨F, ov, by simp only [RdS]; exact ⟨cs, h1, h4⟩, by simpa only [finIds, S.os] using h5⟩
    | _ => simp only [finOk] at h
  | x, .p _ _, c, h, hv, _, _ => by simp only [S.res] at hv
  | x, .e _ _, c, h, hv, _, _ => by simp only [S.res] at hv
  | x, .g _ _, c, h, hv, _, _ => by simp only [S.res] at hv
  | x, .f _ _ _, c, h, hv, _, _ => by simp only [S.res] at hv
  | x, .m _, c, h, hv, _, _ => by simp only [S.res] at hv
  | x, .q _ _ _ _, c, h, hv, _, _ => by simp only [S.res] at hv
theorem finl_rd (hi : Inv w0 s a w G) {K : Nat → Nat → Prop} (hK : ∀ b o, b < w.heap.size → (G.K b o ∨ w0.heap.size ≤ b) → K b o) : ∀ {x V : List S} {c : List Value}, finOkl s.m x V → S.ress V → ((S.oss V).map (·.1)).Nodup → RdSs w G x c → ∃ F ov, RdSs w (ghA K ov) V c ∧ FinRd w G s.m (finIdl x V) (S.oss V) F ov
  | [], [], c, h, _, _, hr => ⟨fun _ => [], fun _ => .nilIface, by simpa only [RdSs] using hr, ⟨by simp [S.oss], by simp [S.oss]⟩⟩
  | [], _ :: _, c, h, _, _, hr => by simp only [finOkl] at h
  | _ :: _, [], c, h, _, _, hr => by simp only [finOkl] at h
  | x :: l, y :: l', c, h, hv, hn, hr => by
    simp only [finOkl] at h
    simp only [S.ress] at hv
    simp only [S.oss, List.map_append, List.nodup_append] at hn
    simp only [RdSs] at hr
    obtain ⟨c1, c2, rfl, h2, h3⟩ := hr
    obtain ⟨F1, ov1, h4, h5⟩ := fin_rd hi hK h.1 hv.1 hn.1 h2
    obtain ⟨F2, ov2, h6, h7⟩ := finl_rd hi hK h.2 hv.2 hn.2.1 h3
    classical
    let ks := (S.os y).map (·.1)
    have hin : ∀ p, p ∈ S.os y → p.1 ∈ ks := fun p hp => List.mem_map.2 ⟨p, hp, rfl⟩
    have hout : ∀ p, p ∈ S.oss l' → p.1 ∉ ks := fun p hp hk => hn.2.2 p.1 hk p.1 (List.mem_map.2 ⟨p, hp, rfl⟩) rfl
    refine ⟨fun k => if k ∈ ks then F1 k else F2 k, fun k => if k ∈ ks then ov1 k else ov2 k, ?_, ⟨fun p hp => ?_, fun p hp => ?_⟩⟩
    · simp only [RdSs]
      exact ⟨c1, c2, rfl, ov_congr hv.1 (fun p hp => by simp only [hin p hp, if_true]) h4, ovs_congr hv.2 (fun p hp => by simp only [hout p hp, if_false]) h6⟩
    · simp only [S.oss, List.mem_append] at hp
      rcases hp with hp | hp
      · simp only [hin p hp, if_true]; exact h5.own p hp
      · simp only [hout p hp, if_false]; exact h7.own p hp
    · simp only [S.oss, List.mem_append] at hp
      simp only [finIdl, List.mem_append]
      rcases hp with hp | hp
      · simp only [hin p hp, if_true]
        exact (h5.at_ p hp).imp (fun h => h) (fun ⟨j, h1, h2⟩ => ⟨j, .inl h1, h2⟩)
      · simp only [hout p hp, if_false]
        exact (h7.at_ p hp).imp (fun h => h) (fun ⟨j, h1, h2⟩ => ⟨j, .inr h1, h2⟩)
end
theorem nodup_snd : ∀ {l : List (Nat × Nat)} {k k' j : Nat}, (l.map (·.2)).Nodup → (k, j) ∈ l → (k', j) ∈ l → k = k'
  | [], _, _, _, _, h, _ => by simp at h
  | p :: l, k, k', j, hn, h1, h2 => by
    rw [List.map_cons, List.nodup_cons] at hn
    rcases List.mem_cons.1 h1 with e1 | h1 <;> rcases List.mem_cons.1 h2 with e2 | h2
    · rw [← e1] at e2; injection e2 with e2; exact e2.symm
    · exact (hn.1 (List.mem_map.2 ⟨_, h2, by rw [← e1]⟩)).elim
    · exact (hn.1 (List.mem_map.2 ⟨_, h1, by rw [← e2]⟩)).elim
    · exact nodup_snd hn.2 h1 h2
/-- The state in which a call begins. -/
def initT : Nat → List S → Nat → S
  | _, [] => fun _ => .u
  | i, x :: l => upd (initT (i + 1) l) i x
def St.init (n : Nat) (args : List S) : St := { n := n, t := initT 0 args, m := fun _ => .none, nx := 0 }
theorem initT_rd {w : World} {G : Gh} : ∀ (l : List S) (cs : List Value) (i t : Nat), RdSs w G l cs → i ≤ t → RdS w G (initT i l t) (cs.getD (t - i) undef) ∧ (∀ m, S.wfs m l → (initT i l t).wf m)
  | [], cs, i, t, h, hit => by simp only [initT, RdS, S.wf, implies_true, and_self]
  | x :: l, cs, i, t, h, hit => by
    simp only [RdSs] at h
    obtain ⟨c, c2, rfl, h2, h3⟩ := h
    simp only [initT]
    by_cases e : t = i
    · subst e
      rw [upd_same, Nat.sub_self]
      exact ⟨h2, fun m hm => by simp only [S.wfs] at hm; exact hm.1⟩
    · rw [upd_ne _ _ _ e]
      have := initT_rd l c2 (i + 1) t h3 (by omega)
      rw [show t - i = (t - (i + 1)) + 1 by omega]
      exact ⟨this.1, fun m hm => by simp only [S.wfs] at hm; exact this.2 m hm.2⟩
def resRun (tmps : Array Value) : ResultVar → Sem Value
  | .tmp t => pure (tmps.getD t undef)
  | .cell y t => do loadVar t (← asAddr (tmps.getD y undef))
theorem results_eq (fn : Func) (tmps : Array Value) : results fn tmps = (do
    let vs ← fn.results.mapM (resRun tmps)
    pure (if h : vs.size = 1 then vs[0] else .tuple vs)) := rfl
theorem resS_run {P : Program} (hi : Inv w0 s a w G) {r : ResultVar} {x : S} (h : resS P s r = some x) :
    ∃ v, (resRun a.tmps r).run P w = .ok v w ∧ RdS w G x v := by
  cases r with
  | tmp t =>
    simp only [resS, Option.some.injEq] at h
    subst h
    exact ⟨_, rfl, (hi.ev (.tmp t)).1⟩
  | cell y t =>
    simp only [resS] at h
    have h1 := (hi.ev (.tmp y)).1
    split at h
    · rename_i j k hy
      rw [hy] at h1
      simp only [RdS, Act.eval] at h1
      split at h
      · rename_i cells hj
        have h2 := hi.mem j
        rw [hj] at h2
        simp only [InvB] at h2
        obtain ⟨_, _, _, h3, cs, e, h4, h5, h6⟩ := h2
        obtain ⟨v, h7, h8⟩ := loadS_run (P := P) h h5 h6 (b := G.bx j) (o := 0) (fun i c hc => by
          rw [Nat.zero_add, cell_of_row w (G.bx j) i cs e (0, 0) h4]
          simpa using hc)
        refine ⟨v, ?_, h8⟩
        rw [Nat.zero_add] at h7
        simp only [resRun, h1, asAddr, Sem.run_bind, Sem.run_pure, Result.andThen_ok, h7]
      · cases h
    · cases h
theorem resL_run {P : Program} (hi : Inv w0 s a w G) : ∀ {rs : List ResultVar} {xs : List S}, resL P s rs = some xs →
    ∃ vs, (rs.mapM (resRun a.tmps)).run P w = .ok vs w ∧ RdSs w G xs vs
  | [], xs, h => by
    simp only [resL, Option.some.injEq] at h
    subst h
    exact ⟨[], by simp, by simp only [RdSs]⟩
  | r :: rs, xs, h => by
    simp only [resL] at h
    split at h
    · rename_i x y hx hy
      injection h with h
      subst h
      obtain ⟨v, h1, h2⟩ := resS_run hi hx
      obtain ⟨vs, h3, h4⟩ := resL_run hi hy
      refine ⟨v :: vs, ?_, by simp only [RdSs]; exact ⟨v, vs, rfl, h2, h4⟩⟩
      rw [List.mapM_cons]
      simp only [Sem.run_bind, h1, h3, Result.andThen_ok, Sem.run_pure]
    · cases h
/-- What the results are, as one value. -/
def oneOf : List S → S
  | [x] => x
  | l => .t l
/-- At the function's end: its results are what the contract says. -/
def Fin (P : Program) (rs : List ResultVar) (V : S) (s : St) : Prop :=
  match resL P s rs with
  | some xs => finOk s.m (oneOf xs) V ∧ ((finIds (oneOf xs) V).map (·.2)).Nodup
  | none => False
def Ends (P : Program) (rs : List ResultVar) (V : S) : Exit → St → Prop
  | .normal, s => Fin P rs V s
  | .ret, s => Fin P rs V s
  | _, _ => False
theorem oneOf_rd {w : World} {G : Gh} {xs : List S} {vs : List Value} (h : RdSs w G xs vs) : RdS w G (oneOf xs) (if h : vs.toArray.size = 1 then vs.toArray[0] else .tuple vs.toArray) := by
  have hl := h.len
  match xs, vs, h, hl with
  | [], [], h, _ => simp only [oneOf, RdS]; exact ⟨[], by simp, h⟩
  | [x], [v], h, _ =>
    simp only [RdSs] at h
    obtain ⟨c, c2, e, h1, _⟩ := h
    injection e with e1 e2
    subst e1
    simpa [oneOf] using h1
  | x :: y :: l, v :: u :: l', h, _ =>
    simp only [oneOf, RdS]
    exact ⟨_, by simp, h⟩
  | [], _ :: _, _, hl => simp at hl
  | _ :: _, [], _, hl => simp at hl
  | [_], _ :: _ :: _, _, hl => simp at hl
  | _ :: _ :: _, [_], _, hl => simp at hl
theorem fin_leaves {P : Program} (hi : Inv w0 s a w G) {fn : Func} {V : S} (hf : Fin P fn.results.toList V s) (hv : V.res) (hn : (V.os.map (·.1)).Nodup) :
    ∃ v, (results fn a.tmps).run P w = .ok v w ∧ RdV w0.toWorld w0.K0 w V v := by
  unfold Fin at hf
  split at hf
  · rename_i xs hxs
    obtain ⟨vs, h1, h2⟩ := resL_run hi hxs
    have h3 := oneOf_rd h2
    obtain ⟨F, ov, h4, h5⟩ := fin_rd (K := fun b o => w0.K0 b o ∨ (w0.heap.size ≤ b ∧ b < w.heap.size)) hi (fun b o hb h => by
      by_cases hlt : b < w0.heap.size
      · rcases h with h | h
        · exact .inl ((hi.kold b o hlt).1 h)
        · omega
      · exact .inr ⟨by omega, hb⟩) hf.1 hv hn h3
    refine ⟨_, ?_, F, ov, h4, fun p hp => ⟨h5.own p hp, fun k hk => ?_⟩, fun p q hp hq hne k hk1 hk2 => ?_⟩
    · rw [results_eq, Sem.run_bind, Array.mapM_eq_mapM_toList]
      simp only [Sem.run_map, h1, Result.andThen_ok]
      rfl
    · rcases h5.at_ p hp with h | ⟨j, _, h, hl⟩
      · rw [h] at hk; cases hk
      · rw [h] at hk; exact hi.lt hl k hk
    · rcases h5.at_ p hp with h | ⟨j, h6, h7, hl⟩
      · rw [h] at hk1; cases hk1
      · rcases h5.at_ q hq with h | ⟨j', h8, h9, hl'⟩
        · rw [h] at hk2; cases hk2
        · rw [h7] at hk1
          rw [h9] at hk2
          by_cases e : j = j'
          · subst e
            have := nodup_snd hf.2 h6 h8
            exact hne this
          · exact hi.disj j j' e hl hl' k hk1 hk2
  · exact hf.elim
/-- A function's contract, from its body. -/
theorem AC.intro {P : Program} {f : FuncId} {fn : Func} {c : Code} {args : List S} {V : S} (hf : P.funcs[f]? = some fn) (hb : fn.body = some c) (hname : fn.name ≠ "runtime.NumGoroutine") (hv : V.res) (hn : (V.os.map (·.1)).Nodup) (hw : S.wfs (fun _ => .none) args) (hl : args.length ≤ fn.ntmps)
    (h : Ab P c (Ends P fn.results.toList V) (St.init fn.ntmps args)) : AC P f args V := by
  refine ⟨⟨fn, hf, by rw [hb]; rfl, hname⟩, hv, hn, fun w K cs ov hg hK hr => ?_⟩
  let w0 : Base := { toWorld := w, K0 := K, glob := hg }
  have hcl := hr.len
  have hi : Inv w0 (St.init fn.ntmps args) { tmps := cs.toArray ++ Array.replicate (fn.ntmps - cs.toArray.size) undef, defers := [] } w (ghA K ov) := by
    refine ⟨Below.refl _ _, rfl, by simp [St.init]; omega, fun t ht => ?_, fun b o h => Iff.rfl, hK, fun id => trivial, fun i j _ h => h.elim⟩
    have := initT_rd args cs 0 t hr (by omega)
    refine ⟨?_, this.2 _ hw⟩
    have e : (cs.toArray ++ Array.replicate (fn.ntmps - cs.toArray.size) undef).getD t undef = cs.getD (t - 0) undef := by
      simp only [Array.getD_eq_getD_getElem?, Nat.sub_zero, List.getD_eq_getElem?_getD, Array.getElem?_append]
      by_cases h : t < cs.length
      · simp [h]
      · have ht' : t < fn.ntmps := ht
        simp [h, List.getElem?_eq_none (Nat.le_of_not_lt h)]
        simp only [Array.getElem?_replicate]
        split <;> simp
    rw [e]
    exact this.1
  refine calls_of_wp hf hb (wp_mono (h w0 _ w _ hi) ?_)
  rintro e a' w' ⟨s', G', hq, hi'⟩
  cases e with
  | normal =>
    obtain ⟨v, h1, h2⟩ := fin_leaves hi' hq hv hn
    exact ⟨hi'.defers, v, h1, v, rfl, h2, hi'.below⟩
  | ret =>
    obtain ⟨v, h1, h2⟩ := fin_leaves hi' hq hv hn
    exact ⟨hi'.defers, v, h1, v, rfl, h2, hi'.below⟩
  | _ => exact hq.elim
end
end Go.Proofs.Ytpcjhnbifgjleaa.Ab

/- A state that says less; loops. -/
namespace Go.Proofs.Ytpcjhnbifgjleaa.Ab
set_option linter.unusedSectionVars false
set_option linter.unusedSimpArgs false
set_option linter.constructorNameAsVariable false
open Go.RowKit
set_option linter.unusedVariables false
set_option maxRecDepth 100000
set_option linter.unusedSectionVars false

/-- Whatever the first state describes, the second does too. -/
def Le (s s' : St) : Prop := ∀ w0 a w G, Inv w0 s a w G → ∃ G', Inv w0 s' a w G'
theorem Le.refl (s : St) : Le s s := fun _ _ _ G h => ⟨G, h⟩
theorem Le.trans {s s' s'' : St} (h : Le s s') (k : Le s' s'') : Le s s'' := fun w0 a w G hi => let ⟨G', hi'⟩ := h w0 a w G hi; k w0 a w G' hi'
theorem Ab.weaken {P : Program} {c : Code} {Q : Exit → St → Prop} {s s' : St} (h : Le s s') (hA : Ab P c Q s') : Ab P c Q s := fun w0 a w G hi => let ⟨G', hi'⟩ := h w0 a w G hi; hA w0 a w G' hi'
def LeT (s : St) (t : Nat → S) (m : Nat → B) : Prop := ∀ i, i < s.n → LeS (s.t i) (t i) ∧ (t i).wf m
def LeM (s : St) (m : Nat → B) (M : Nat → B) : Prop := ∀ i, LeB (s.m i) (m i) ∧ wfB M (m i)
theorem LeT.base (s : St) (m : Nat → B) : LeT s (fun _ => .u) m := fun i _ => ⟨.inl rfl, by simp only [S.wf]⟩
theorem LeT.upd {s : St} {t : Nat → S} {m : Nat → B} {i : Nat} {x : S} (h : LeS (s.t i) x) (hw : x.wf m) (k : LeT s t m) : LeT s (Ab.upd t i x) m := fun j hj => by
  by_cases e : j = i
  · subst e; rw [upd_same]; exact ⟨h, hw⟩
  · rw [upd_ne _ _ _ e]; exact k j hj
theorem LeM.base (s : St) (M : Nat → B) : LeM s (fun _ => .none) M := fun i => ⟨by cases s.m i <;> trivial, trivial⟩
theorem LeM.upd {s : St} {m M : Nat → B} {i : Nat} {x : B} (h : LeB (s.m i) x) (hw : wfB M x) (k : LeM s m M) : LeM s (Ab.upd m i x) M := fun j => by
  by_cases e : j = i
  · subst e; rw [upd_same]; exact ⟨h, hw⟩
  · rw [upd_ne _ _ _ e]; exact k j
theorem Le.of {s s' : St} (hn : s'.n = s.n) (ht : LeT s s'.t s'.m) (hm : LeM s s'.m s'.m) : Le s s' := fun w0 a w G hi => by
  refine ⟨G, hi.below, hi.defers, by rw [hn]; exact hi.size, fun t h => ?_, hi.kold, hi.kin, fun id => ?_, fun i j hij hl hl' => ?_⟩
  · have h1 := ht t (by omega)
    exact ⟨h1.1.rd (hi.slots t (by omega)).1, h1.2⟩
  · have h1 := hm id
    have h2 := hi.mem id
    generalize hx : s.m id = x at h1 h2
    generalize hy : s'.m id = y at h1 ⊢
    cases x <;> cases y <;> simp only [LeB] at h1 <;> first | trivial | exact h1.1.elim | skip
    case box.box l l' =>
      simp only [InvB] at h2 ⊢
      obtain ⟨a1, a2, a3, a4, cs, e, a5, a6, a7⟩ := h2
      exact ⟨a1, a2, a3, h1.2, cs, e, a5, h1.1.rd a6, a7⟩
    case tip.tip =>
      obtain ⟨⟨hd, rfl, rfl, rfl⟩, _⟩ := h1
      simp only [InvB] at h2 ⊢
      obtain ⟨a1, a2, xs, F', a3, a4, a5, a6, a7, a8⟩ := h2
      exact ⟨a1, a2, xs, F', a3, a4, a5, a6, a7, fun h => a8 (hd h)⟩
    case tok.tok =>
      obtain ⟨rfl, _⟩ := h1
      exact h2
    case frm.frm =>
      obtain ⟨rfl, h3⟩ := h1
      simp only [InvB] at h2 ⊢
      obtain ⟨a1, a2, a3, a4, a5⟩ := h2
      exact ⟨a1, a2, a3, a4, fun i hi => ⟨wfI_at h3 i hi, (a5 i hi).2⟩⟩
    case arr.arr =>
      obtain ⟨⟨hd, rfl, rfl, rfl⟩, _⟩ := h1
      simp only [InvB] at h2 ⊢
      obtain ⟨a1, xs, F', cap, a2, a3, a4, a5, a6, a7, a8, a9⟩ := h2
      exact ⟨a1, xs, F', cap, a2, a3, a4, a5, a6, a7, a8, fun h => a9 (hd h)⟩
  · have live : ∀ i, (s'.m i).live → (s.m i).live := fun i h => by
      have h1 := (hm i).1
      generalize s.m i = x at h1
      generalize s'.m i = y at h1 h
      cases x <;> cases y <;> simp only [LeB] at h1 <;> first | trivial | exact h.elim
    exact hi.disj i j hij (live i hl) (live j hl')
/-- A loop, whose invariant may say less than is known. -/
theorem Ab.loopW {P : Program} {c : Code} {Q : Exit → St → Prop} {s : St} (J : Nat → St → Prop) (h0 : ∃ n s1, Le s s1 ∧ J n s1) (hr : ∀ n s, J n s → Ab P c (thenS (fun s' => ∃ m s1, m < n ∧ Le s' s1 ∧ J m s1) Q) s) : Ab P (.loop c) Q s := by
  obtain ⟨n, s1, h1, h2⟩ := h0
  refine Ab.weaken h1 (Ab.loop (fun n s => ∃ s1, Le s s1 ∧ J n s1) n ⟨s1, Le.refl _, h2⟩ (fun n s ⟨s1, h3, h4⟩ => ?_))
  refine Ab.weaken h3 (Ab.mono (hr n s1 h4) (fun e s' h => ?_))
  cases e <;> first | exact h | (obtain ⟨m, s2, h5, h6, h7⟩ := h; exact ⟨m, h5, s2, h6, h7⟩)
/-- The slice nil becomes a growing slice. -/
theorem Le.adopt {s : St} {t id n : Nat} (e : TypeId) (hn : 0 < n) (hm : s.m id = .none) (ht : s.t t = .d (.v (.slice none 0 0))) : Le s { s with t := upd s.t t (.g id []), m := upd s.m id (.tip true e n []) } := fun w0 a w G hi => by
  obtain ⟨G', h1, h2, h3, _⟩ := hi.adopt e hn hm
  refine ⟨G', h1.below, h1.defers, h1.size, fun i hi' => ?_, h1.kold, h1.kin, h1.mem, h1.disj⟩
  by_cases hit : i = t
  · subst hit
    simp only [upd_same]
    have := (hi.slots i hi').1
    rw [ht] at this
    rw [this.val]
    exact ⟨h3, by simp only [S.wf, upd_same]; exact fun h => by cases h⟩
  · simp only [upd_ne _ _ _ hit]
    exact h1.slots i hi'
theorem RdSs.put {w : World} {G : Gh} {x y : S} (h : ∀ v, RdS w G x v → RdS w G y v) : ∀ {l : List S} {cs : List Value} {k : Nat}, RdSs w G l cs → l[k]? = some x → RdSs w G (l.set k y) cs
  | [], cs, k, hr, hk => by simp at hk
  | z :: l, cs, 0, hr, hk => by
    simp only [List.getElem?_cons_zero, Option.some.injEq] at hk
    subst hk
    simp only [RdSs, List.set_cons_zero] at hr ⊢
    obtain ⟨c, c2, rfl, h1, h2⟩ := hr
    exact ⟨c, c2, rfl, h _ h1, h2⟩
  | z :: l, cs, k + 1, hr, hk => by
    simp only [List.getElem?_cons_succ] at hk
    simp only [RdSs, List.set_cons_succ] at hr ⊢
    obtain ⟨c, c2, rfl, h1, h2⟩ := hr
    exact ⟨c, c2, rfl, h1, RdSs.put h h2 hk⟩
theorem S.wfs.put {m : Nat → B} {y : S} (h : y.wf m) : ∀ {l : List S} {k : Nat}, S.wfs m l → S.wfs m (l.set k y)
  | [], k, hl => hl
  | z :: l, 0, hl => by simp only [S.wfs, List.set_cons_zero] at hl ⊢; exact ⟨h, hl.2⟩
  | z :: l, k + 1, hl => by simp only [S.wfs, List.set_cons_succ] at hl ⊢; exact ⟨hl.1, S.wfs.put h hl.2⟩
/-- The slice nil in a box becomes a growing slice. -/
theorem Le.adoptB {s : St} {b id k n : Nat} {cells : List S} (e : TypeId) (hn : 0 < n) (hm : s.m id = .none) (hb : s.m b = .box cells) (hk : cells[k]? = some (.d (.v (.slice none 0 0)))) :
    Le s { s with m := upd (upd s.m id (.tip true e n [])) b (.box (cells.set k (.g id []))) } := fun w0 a w G hi => by
  obtain ⟨G', h1, h2, h3, _⟩ := hi.adopt e hn hm
  have hbi : b ≠ id := fun e => by rw [e, hm] at hb; cases hb
  have hmm : ∀ j, upd s.m id (.tip true e n []) j ≠ .none → upd (upd s.m id (.tip true e n [])) b (.box (cells.set k (.g id []))) j ≠ .none := fun j h => by
    by_cases hj : j = b
    · subst hj; rw [upd_same]; exact fun h => by cases h
    · rw [upd_ne _ _ _ hj]; exact h
  refine ⟨G', h1.below, h1.defers, h1.size, fun i hi' => ⟨(h1.slots i hi').1, (h1.slots i hi').2.mono hmm⟩, h1.kold, h1.kin, fun j => ?_, fun i j hij hl hl' => ?_⟩
  · have hj := h1.mem j
    by_cases hjb : j = b
    · subst hjb
      simp only [upd_ne _ _ _ hbi, hb] at hj
      simp only [upd_same]
      simp only [InvB] at hj ⊢
      obtain ⟨a1, a2, a3, a4, cs, el, a5, a6, a7⟩ := hj
      refine ⟨a1, a2, a3, (S.wfs.put ?_ a4).mono hmm, cs, el, a5, a6.put (fun v hv => ?_) hk, a7⟩
      · simp only [S.wf, upd_same]; exact fun h => by cases h
      · simp only [RdS, RdD] at hv
        rw [hv.1]
        exact h3
    · simp only [upd_ne _ _ _ hjb]
      simp only [upd_ne _ _ _ hjb] at hj
      exact hj.wide hmm
  · have live : ∀ i, (upd (upd s.m id (.tip true e n [])) b (.box (cells.set k (.g id []))) i).live → (upd s.m id (.tip true e n []) i).live := fun i h => by
      by_cases hj : i = b
      · subst hj; rw [upd_ne _ _ _ hbi, hb]; trivial
      · rw [upd_ne _ _ _ hj] at h; exact h
    exact h1.disj i j hij (live i hl) (live j hl')
end Go.Proofs.Ytpcjhnbifgjleaa.Ab

/- Reckoning with states: operations, regions. -/
namespace Go.Proofs.Ytpcjhnbifgjleaa.Ab
set_option linter.unusedSectionVars false
set_option linter.unusedSimpArgs false
set_option linter.constructorNameAsVariable false
open Go.RowKit
set_option linter.unusedVariables false
set_option maxRecDepth 100000
set_option linter.unusedSectionVars false

theorem upd_app {α : Type} (f : Nat → α) (i : Nat) (v : α) (j : Nat) : upd f i v j = if j = i then v else f j := rfl
/-- A slice type's element: its type, cells, bytes. -/
def elOf (P : Program) (t : TypeId) : Option (TypeId × Nat × Nat) :=
  match P.underlying t with
  | some (.slice e) => match P.info? e with
    | some ie => match ie.zero with
      | some z => if z.cells.size = ie.size ∧ 0 < ie.size ∧ z.cells.toList.all (·.oneCell') = true then some (e, ie.size, ie.bytes) else none
      | none => none
    | none => none
  | _ => none
theorem elOf_ok {P : Program} {t e : TypeId} {n b : Nat} (h : elOf P t = some (e, n, b)) : ElOk P t e n b := by
  unfold elOf at h
  split at h
  · rename_i e' ht
    split at h
    · rename_i ie hie
      split at h
      · rename_i z hz
        split at h
        · rename_i hc
          injection h with h
          injection h with h1 h2
          injection h2 with h2 h3
          subst h1
          exact ⟨ht, ie, z, hie, hz, h2, h3, by rw [hc.1, h2], fun y hy => List.all_eq_true.1 hc.2.2 y hy, by omega⟩
        · cases h
      · cases h
    · cases h
  · cases h

def evOp (P : Program) (o : Oper) (id : Nat) (ev : Operand → S) (m : Nat → B) : Option Rec :=
  let pure' : Option Rec := match evP P o ev with
    | some V => some ⟨V, [], []⟩
    | none => none
  match o.op with
  | .build t parts => match buildS P t parts.toList ev with
    | some V => some ⟨V, [], []⟩
    | none => none
  | .box _ x => match (ev x).cells?, m id with
    | some cells, .none => some ⟨.p id 0, [(id, .box cells)], []⟩
    | _, _ => none
  | .alloc e => match zeroCells? P e, m id with
    | some cells, .none => some ⟨.p id 0, [(id, .box cells)], []⟩
    | _, _ => none
  | .load t x => match ev x with
    | .p j k => match m j with
      | .box cells => match loadS P t cells k with
        | some V => some ⟨V, [], [j]⟩
        | none => none
      | _ => none
    | .q j n i k => match m j with
      | .arr _ _ n' es => match es[i]? with
        | some el => match loadS P t (el.map S.d) k with
          | some V => if n' = n then some ⟨V, [], [j]⟩ else none
          | none => none
        | none => none
      | _ => none
    | _ => pure'
  | .store t x y => match ev x with
    | .p j k => match m j, (ev y).cells?, sizeIn P t with
      | .box cells, some vs, some n => if vs.length = n ∧ k + n ≤ cells.length then some ⟨.u, [(j, .box (setMany cells k vs))], []⟩ else none
      | _, _, _ => none
    | _ => none
  | .call { callee := .builtin .len, args := xs, argTypes := ts } => match xs.toList, ts.toList with
    | [x], [t] => match ev x with
      | .m j => match P.underlying t, m j with
        | some (.slice _), .arr _ _ _ es => some ⟨.d (.v (.int .i64 es.length)), [], [j]⟩
        | _, _ => none
      | _ => pure'
    | _, _ => none
  | .indexAddr t x ix => match ev x with
    | .m j => match P.underlying t, m j, ev ix with
      | some (.slice e), .arr _ e' n es, .d (.v (.int _ i)) => if 0 ≤ i ∧ i.toNat < es.length ∧ e = e' ∧ sizeIn P e = some n then some ⟨.q j n i.toNat 0, [], [j]⟩ else none
      | _, _, _ => none
    | _ => pure'
  | _ => pure'
theorem evOp_stp {P : Program} {o : Oper} {id : Nat} {ev : Operand → S} {m : Nat → B} {r : Rec} (h : evOp P o id ev m = some r) : Stp P o id ev m r := by
  have hp : ∀ {r : Rec}, (match evP P o ev with | some V => some (⟨V, [], []⟩ : Rec) | none => none) = some r → Stp P o id ev m r := fun {r} h => by
    split at h
    · rename_i V hV
      injection h with h
      subst h
      exact .pure V hV
    · cases h
  unfold evOp at h
  simp only at h
  split at h
  · rename_i t parts ho
    split at h
    · rename_i V hV
      injection h with h; subst h
      exact .build t parts V ho hV
    · cases h
  · rename_i e x ho
    split at h
    · rename_i cells hx hm
      injection h with h; subst h
      exact .box e x cells ho hx hm
    · cases h
  · rename_i e ho
    split at h
    · rename_i cells hz hm
      injection h with h; subst h
      exact .alloc e cells ho hz hm
    · cases h
  · rename_i t x ho
    split at h
    · rename_i j k hx
      split at h
      · rename_i cells hj
        split at h
        · rename_i V hV
          injection h with h; subst h
          exact .load t x j k cells V ho hx hj hV
        · cases h
      · cases h
    · rename_i j n i k hx
      split at h
      · rename_i deep e n' es hj
        split at h
        · rename_i el hel
          split at h
          · rename_i V hV
            split at h
            · rename_i hn
              subst hn
              injection h with h; subst h
              exact .loadq t x j _ i k deep e es el V ho hx hj hel hV
            · cases h
          · cases h
        · cases h
      · cases h
    · exact hp h
  · rename_i t x y ho
    split at h
    · rename_i j k hx
      split at h
      · rename_i cells vs n hj hy hn
        split at h
        · rename_i hc
          injection h with h; subst h
          exact .store t x y j k cells vs ho hx hj hy (by omega) (by rw [hc.1]; exact hn)
        · cases h
      · cases h
    · cases h
  · rename_i xs ts ho
    split at h
    · rename_i x t hxs hts
      have e1 : xs = #[x] := by rw [← Array.toArray_toList (xs := xs), hxs]
      have e2 : ts = #[t] := by rw [← Array.toArray_toList (xs := ts), hts]
      subst e1
      subst e2
      split at h
      · rename_i j hx
        split at h
        · rename_i e' deep e n es ht hj
          injection h with h; subst h
          exact .lenm x t e' j n deep e es ho ht hx hj
        · cases h
      · exact hp h
    · cases h
  · rename_i t x ix ho
    split at h
    · rename_i j hx
      split at h
      · rename_i e deep e' n es k i ht hj hix
        split at h
        · rename_i hc
          obtain ⟨h0, h1, rfl, h2⟩ := hc
          injection h with h; subst h
          obtain ⟨inf, h3, h4⟩ := sizeIn_info h2
          exact .idxm x ix t j n i.toNat k deep e inf es ho ht hx hj (by rw [Int.toNat_of_nonneg h0]; exact hix) h1 h3 h4
        · cases h
      · cases h
    · exact hp h
  · exact hp h

/-- What is looked at later: simp does not go in. -/
class Kept (α : Type) where
  it : α
def Later [p : Kept Prop] : Prop := p.it
theorem Later.mk {p : Prop} (h : p) : @Later ⟨p⟩ := h
/-- What is known first: simp goes into what comes after only once that is known. -/
def Opt {α : Type} (o : Option α) [K : Kept (α → Prop)] : Prop := ∃ a, o = some a ∧ K.it a
theorem Opt.is {α : Type} {a : α} {K : α → Prop} : @Opt α (some a) ⟨K⟩ = K a := propext ⟨fun ⟨_, h, k⟩ => by injection h with h; subst h; exact k, fun h => ⟨a, rfl, h⟩⟩
theorem Opt.no {α : Type} {K : Kept (α → Prop)} : @Opt α none K = False := propext ⟨fun ⟨_, h, k⟩ => (nomatch h), False.elim⟩
theorem Opt.mk {α : Type} {o : Option α} {a : α} {K : α → Prop} (h : o = some a) (k : K a) : @Opt α o ⟨K⟩ := ⟨a, h, k⟩
/-- Whether an operation is asked at all. -/
def Asks (b : Bool) [X : Kept Prop] [Y : Kept Prop] : Prop := (b = true → X.it) ∧ (b = false → Y.it)
theorem Asks.yes {X : Prop} {Y : Kept Prop} : @Asks true ⟨X⟩ Y = X := by simp [Asks]
theorem Asks.no {X : Kept Prop} {Y : Prop} : @Asks false X ⟨Y⟩ = Y := by simp [Asks]
theorem Asks.mk {b : Bool} {X Y : Prop} (h : b = true → X) (k : b = false → Y) : @Asks b ⟨X⟩ ⟨Y⟩ := ⟨h, k⟩
/-- Two ways to take a call: by what it gives alone, or by what it writes as well. Neither is gone into before one is chosen. -/
def Kw [X : Kept Prop] [Y : Kept Prop] : Prop := X.it ∨ Y.it
theorem Kw.ac {X : Prop} {Y : Kept Prop} (h : X) : @Kw ⟨X⟩ Y := .inl h
theorem Kw.aw {X : Kept Prop} {Y : Prop} (h : Y) : @Kw X ⟨Y⟩ := .inr h
/-- What an append takes over: the rest goes on with the elements, whether they are all owned, and what they give up. -/
def srcStep (ev : Operand → S) (m : Nat → B) (n : Nat) (y : Operand) (C : List (List D) → Bool → List Nat → Prop) : Prop :=
  let plain : Prop := match (ev y).asL with
    | some es2 => (∀ e, e ∈ es2 → e.length = n) ∧ ∃ d2 : Bool, (d2 = true → ∀ e, e ∈ es2 → ∀ x, x ∈ e → x.flat) ∧ @Later ⟨C es2 d2 []⟩
    | none => False
  match ev y with
  | .g j2 es2 => match m j2 with
    | .tip true _ n2 es' => n2 = n ∧ es' = es2 ∧ C es2 true [j2]
    | _ => plain
  | .o j2 (.sl es2) => match m j2 with
    | .tok (.sl es') => es' = es2 ∧ (∀ e, e ∈ es2 → e.length = n) ∧ C es2 true [j2]
    | _ => plain
  | _ => plain
theorem srcStep_ok {ev : Operand → S} {m : Nat → B} {n : Nat} {y : Operand} {C : List (List D) → Bool → List Nat → Prop} (h : srcStep ev m n y C) : ∃ es2 d2 con, C es2 d2 con ∧
    (((ev y).asL = some es2 ∧ (∀ e, e ∈ es2 → e.length = n) ∧ (d2 = true → ∀ e, e ∈ es2 → ∀ x, x ∈ e → x.flat) ∧ con = []) ∨ (∃ j2 e2, ev y = .g j2 es2 ∧ m j2 = .tip true e2 n es2 ∧ con = [j2]) ∨ (∃ j2, ev y = .o j2 (.sl es2) ∧ m j2 = .tok (.sl es2) ∧ (∀ e, e ∈ es2 → e.length = n) ∧ con = [j2])) := by
  have plain : (match (ev y).asL with
    | some es2 => (∀ e, e ∈ es2 → e.length = n) ∧ ∃ d2 : Bool, (d2 = true → ∀ e, e ∈ es2 → ∀ x, x ∈ e → x.flat) ∧ C es2 d2 []
    | none => False) → ∃ es2 d2 con, C es2 d2 con ∧
    (((ev y).asL = some es2 ∧ (∀ e, e ∈ es2 → e.length = n) ∧ (d2 = true → ∀ e, e ∈ es2 → ∀ x, x ∈ e → x.flat) ∧ con = []) ∨ (∃ j2 e2, ev y = .g j2 es2 ∧ m j2 = .tip true e2 n es2 ∧ con = [j2]) ∨ (∃ j2, ev y = .o j2 (.sl es2) ∧ m j2 = .tok (.sl es2) ∧ (∀ e, e ∈ es2 → e.length = n) ∧ con = [j2])) := fun h => by
    split at h
    · rename_i es2 hes
      obtain ⟨h1, d2, h2, h3⟩ := h
      exact ⟨es2, d2, [], h3, .inl ⟨hes, h1, h2, rfl⟩⟩
    · exact h.elim
  unfold srcStep at h
  simp only at h
  split at h
  · rename_i j2 es2 hy
    split at h
    · rename_i e2 n2 es' hj
      obtain ⟨rfl, rfl, h⟩ := h
      exact ⟨_, _, _, h, .inr (.inl ⟨j2, e2, hy, hj, rfl⟩)⟩
    · first | exact plain h | exact plain (by rw [hy]; exact h)
  · rename_i j2 es2 hy
    split at h
    · rename_i es' hj
      obtain ⟨rfl, h1, h⟩ := h
      exact ⟨_, _, _, h, .inr (.inr ⟨j2, hy, hj, h1, rfl⟩)⟩
    · first | exact plain h | exact plain (by rw [hy]; exact h)
  · exact plain h
def evStep (P : Program) (o : Oper) (id : Nat) (ev : Operand → S) (m : Nat → B) (K : Rec → Prop) : Prop :=
  let dflt : Prop := @Opt _ (evOp P o id ev m) ⟨K⟩
  match o.op with
  | .call { callee := .value f, args := xs, argTypes := _ } => match ev f with
    | .f (.func g) first caps => match m 11 with
      | .dead => @Kw ⟨(@Opt _ (S.argl m (first ++ xs.toList.map ev ++ caps)) ⟨fun args => ∃ V, AC P g args V ∧ (V.solid ∨ S.readsl m (first ++ xs.toList.map ev ++ caps) = []) ∧ (∀ p, p ∈ V.os → m (id + p.1) = .none) ∧ @Later ⟨K ⟨V.shift id, toks id V, S.readsl m (first ++ xs.toList.map ev ++ caps)⟩⟩⟩)⟩
          ⟨∃ args V M M', AW P g args M V M' ∧ LeSs (first ++ xs.toList.map ev ++ caps) args ∧ preM m M ∧ postM m (keysM M) M' ∧ @Later ⟨K ⟨V, M', keysM M⟩⟩⟩
      | _ => @Opt _ (S.argl m (first ++ xs.toList.map ev ++ caps)) ⟨fun args => ∃ V, AC P g args V ∧ (V.solid ∨ S.readsl m (first ++ xs.toList.map ev ++ caps) = []) ∧ (∀ p, p ∈ V.os → m (id + p.1) = .none) ∧ @Later ⟨K ⟨V.shift id, toks id V, S.readsl m (first ++ xs.toList.map ev ++ caps)⟩⟩⟩
    | _ => False
  | .call { callee := .builtin .append, args := xs, argTypes := ts } => match xs.toList, ts.toList with
    | [x, y], [t, t'] => match elOf P t with
      | some (e, n, b) => t' = t ∧ match ev x with
        | .g j es => match m j with
          | .tip d1 e' n' es' => e' = e ∧ n' = n ∧ es' = es ∧ srcStep ev m n y (fun es2 d2 con => j ∉ con ∧ es.length + es2.length ≤ maxLen ∧ (es.length + es2.length) * b ≤ 140737488355328 ∧ K ⟨.g j (es ++ es2), (j, .tip (d1 && d2) e n (es ++ es2)) :: kill con, []⟩)
          | _ => False
        | .d (.v (.slice none 0 0)) => m id = .none ∧ srcStep ev m n y (fun es2 d2 con => id ∉ con ∧ es2.length ≤ maxLen ∧ es2.length * b ≤ 140737488355328 ∧ K ⟨.g id es2, (id, .tip d2 e n es2) :: kill con, []⟩)
        | _ => False
      | none => False
    | _, _ => False
  | .buildSlice t len parts => match elOf P t with
    | some (e, n, _) => match partsS ev parts.toList with
      | some ps => match fillS (fun i => some (i * n, n)) (List.replicate (len * n) S.u) ps with
        | some out => match toDs out with
          | some ds => len * n ≤ 16777216 ∧ m id = .none ∧ match ownIds m out with
            | some con => sameD m out ∧ con.Nodup ∧ K ⟨.g id (cut n len ds), (id, .tip true e n (cut n len ds)) :: kill con, []⟩
            | none => K ⟨.g id (cut n len ds), (id, .tip false e n (cut n len ds)) :: kill [], []⟩
          | none => False
        | none => False
      | none => False
    | none => False
  | .makeSlice t x y => match elOf P t with
    | some (e, n, b) => match ev x, ev y, zeroCells? P e with
      | .d (.v (.int _ i)), .d (.v (.int _ i')), some zs => match toDs zs with
        | some ds => 0 ≤ i ∧ i' = i ∧ (∀ d, d ∈ ds → d.flat) ∧ ds.length = n ∧ b * i.toNat ≤ 281474976710656 ∧ i.toNat ≤ maxLen ∧ m id = .none ∧ K ⟨.m id, [(id, .arr true e n (List.replicate i.toNat ds))], []⟩
        | none => False
      | _, _, _ => False
    | none => False
  | .store t x y => match ev x with
    | .q j n i k => match m j, (ev y).cells? with
      | .arr deep e n' es, some vs => @Opt _ es[i]? ⟨fun el => @Opt _ (toDs vs) ⟨fun ds => n' = n ∧ k + ds.length ≤ el.length ∧ sizeIn P t = some ds.length ∧ match deep, ownIds m vs with
          | true, some con => sameD m vs ∧ con.Nodup ∧ j ∉ con ∧ K ⟨.u, (j, .arr true e n (es.set i (setMany el k ds))) :: kill con, []⟩
          | _, _ => K ⟨.u, (j, .arr false e n (es.set i (setMany el k ds))) :: kill [], []⟩⟩⟩
      | _, _ => False
    | _ => dflt
  | _ => dflt
theorem evStep_stp {P : Program} {o : Oper} {id : Nat} {ev : Operand → S} {m : Nat → B} {K : Rec → Prop} (h : evStep P o id ev m K) : ∃ r, Stp P o id ev m r ∧ K r := by
  have hd : @Opt _ (evOp P o id ev m) ⟨K⟩ → ∃ r, Stp P o id ev m r ∧ K r := fun ⟨r, hr, h⟩ => ⟨r, evOp_stp hr, h⟩
  unfold evStep at h
  simp only at h
  split at h
  · rename_i f xs ts ho
    split at h
    · rename_i g first caps hf
      split at h
      · rcases h with ⟨args, ha, V, h1, h2, h3, h4⟩ | ⟨args, V, M, M', h1, h2, h3, h5, h4⟩
        · exact ⟨_, .call f xs ts g first caps args V ho hf ha h1 h2 h3, h4⟩
        · exact ⟨_, .callw f xs ts g first caps args V M M' ho hf h2 h1 h3 h5, h4⟩
      · obtain ⟨args, ha, V, h1, h2, h3, h4⟩ := h
        exact ⟨_, .call f xs ts g first caps args V ho hf ha h1 h2 h3, h4⟩
    · exact h.elim
  · rename_i xs ts ho
    split at h
    · rename_i x y t t' hxs hts
      have e1 : xs = #[x, y] := by rw [← Array.toArray_toList (xs := xs), hxs]
      have e2 : ts = #[t, t'] := by rw [← Array.toArray_toList (xs := ts), hts]
      subst e1
      subst e2
      split at h
      · rename_i e n b hel
        obtain ⟨rfl, h⟩ := h
        split at h
        · rename_i j es hx
          split at h
          · rename_i d1 e' n' es' hj
            obtain ⟨rfl, rfl, rfl, h⟩ := h
            obtain ⟨es2, d2, con, ⟨h1, h2, h3, h4⟩, h5⟩ := srcStep_ok h
            exact ⟨_, .app x y _ _ _ b j d1 d2 (d1 && d2) _ es2 con ho (elOf_ok hel) hx hj h5 (fun h => by simpa using h) h1 h2 h3, h4⟩
          · exact h.elim
        · rename_i hx
          obtain ⟨h0, h⟩ := h
          obtain ⟨es2, d2, con, ⟨h1, h2, h3, h4⟩, h5⟩ := srcStep_ok h
          exact ⟨_, .appNil x y _ _ _ b d2 es2 con ho (elOf_ok hel) hx h0 h5 h1 h2 h3, h4⟩
        · exact h.elim
      · exact h.elim
    · exact h.elim
  · rename_i t len parts ho
    split at h
    · rename_i e n b hel
      split at h
      · rename_i ps hps
        split at h
        · rename_i out hout
          split at h
          · rename_i ds hds
            obtain ⟨h1, h2, h⟩ := h
            split at h
            · rename_i con hcon
              obtain ⟨h3, h4, h5⟩ := h
              exact ⟨_, .lit t e n b len parts ps out ds true con ho (elOf_ok hel) h1 hps hout hds h2 (by simp only [if_true]; exact ⟨hcon, h3, h4⟩), h5⟩
            · exact ⟨_, .lit t e n b len parts ps out ds false [] ho (elOf_ok hel) h1 hps hout hds h2 (by simp), h⟩
          · exact h.elim
        · exact h.elim
      · exact h.elim
    · exact h.elim
  · rename_i t x y ho
    split at h
    · rename_i e n b hel
      split at h
      · rename_i k1 i k2 i' zs hx hy hz
        split at h
        · rename_i ds hds
          obtain ⟨h0, rfl, h1, h2, h3, h4, h5, h6⟩ := h
          exact ⟨_, .make t e n b x y k1 k2 _ zs ds ho (elOf_ok hel) hz hds h1 h2 (by rw [Int.toNat_of_nonneg h0]; exact hx) (by rw [Int.toNat_of_nonneg h0]; exact hy) h3 h4 h5, h6⟩
        · exact h.elim
      · exact h.elim
    · exact h.elim
  · rename_i t x y ho
    split at h
    · rename_i j n i k hx
      split at h
      · rename_i deep e n' es vs hj hy
        obtain ⟨el, hel, ds, hds, rfl, h1, h2, h⟩ := h
        split at h
        · rename_i con hcon
          obtain ⟨h3, h4, h5, h6⟩ := h
          exact ⟨_, .storeq t x y j _ i k true true e es el ds vs con ho hx hj hel hy hds h1 h2 (by simp only [if_true]; exact ⟨trivial, hcon, h3, h4⟩) h5, h6⟩
        · exact ⟨_, .storeq t x y j _ i k _ false e es el ds vs [] ho hx hj hel hy hds h1 h2 (by simp) (by simp), h⟩
      · exact h.elim
    · exact hd h
  · exact hd h
/-- A region, operation by operation. -/
def evOps (P : Program) (ops : List Oper) : List Oper → Nat → St → List (Option Rec) → (St → List (Option Rec) → Prop) → Prop
  | [], _, s, acc, K => K s acc.reverse
  | o :: l, id, s, acc, K => @Opt _ (s.asked ops o) ⟨fun b => @Asks b ⟨evStep P o id s.ev s.m fun r => evOps P ops l (id + 16) (s.app o.dst r) (some r :: acc) K⟩ ⟨evOps P ops l (id + 16) (s.put o.dst (.t [])) (none :: acc) K⟩⟩
theorem evOps_run {P : Program} {ops : List Oper} : ∀ {l : List Oper} {id : Nat} {s : St} {acc : List (Option Rec)} {K : St → List (Option Rec) → Prop}, evOps P ops l id s acc K → ∃ rs s', Run P ops l id s rs s' ∧ K s' (acc.reverse ++ rs)
  | [], id, s, acc, K, h => ⟨[], s, ⟨rfl, rfl⟩, by simp only [evOps] at h; rw [List.append_nil]; exact h⟩
  | o :: l, id, s, acc, K, h => by
    simp only [evOps] at h
    obtain ⟨b, hb, h⟩ := h
    cases b with
    | true =>
      obtain ⟨r, h1, h2⟩ := evStep_stp (h.1 rfl)
      obtain ⟨rs, s', h3, h4⟩ := evOps_run h2
      exact ⟨some r :: rs, s', ⟨some r, rs, rfl, ⟨hb, h1⟩, h3⟩, by simpa using h4⟩
    | false =>
      obtain ⟨rs, s', h3, h4⟩ := evOps_run (h.2 rfl)
      exact ⟨none :: rs, s', ⟨none, rs, rfl, hb, h3⟩, by simpa using h4⟩
theorem Ab.region' {P : Program} {id : Nat} {ops : List Oper} {Q : Exit → St → Prop} {s : St} (h : evOps P ops ops s.nx s [] fun s' _ => Q .normal { s' with nx := s.nx + 16 * ops.length }) : Ab P (.region id ops.toArray false) Q s := by
  obtain ⟨rs, s', h1, h2⟩ := evOps_run h
  exact Ab.region h1 h2
end Go.Proofs.Ytpcjhnbifgjleaa.Ab

/- What an operation does hangs on its operands and on the numbers that it touches alone. -/
namespace Go.Proofs.Ytpcjhnbifgjleaa.Ab
set_option linter.unusedSectionVars false
set_option linter.unusedSimpArgs false
set_option linter.constructorNameAsVariable false
open Go.RowKit
set_option linter.unusedVariables false
set_option maxRecDepth 100000
set_option linter.unusedSectionVars false

def Rec.keys (r : Rec) : List Nat := r.w.map (·.1)
def Rec.foot (r : Rec) : List Nat := r.keys ++ r.r
section
variable {P : Program} {o : Oper} {ev ev' : Operand → S} {m m' : Nat → B}
theorem boundS_congr (he : ∀ x, x ∈ o.op.operands → ev x = ev' x) {d : Nat} {x : Option Operand} (hx : ∀ y, x = some y → y ∈ o.op.operands) : boundS ev d x = boundS ev' d x := by
  cases x with
  | none => rfl
  | some y => simp only [boundS, he y (hx y rfl)]
theorem evP_congr (he : ∀ x, x ∈ o.op.operands → ev x = ev' x) : evP P o ev = evP P o ev' := by
  have mem : ∀ x, x ∈ o.op.operands → ev x = ev' x := he
  cases hop : o.op with
  | move x => simp only [evP, hop]; rw [he x (by simp [hop, Op.operands])]
  | assign x => simp only [evP, hop]; rw [he x (by simp [hop, Op.operands])]
  | pick c x y => simp only [evP, hop]; rw [he c (by simp [hop, Op.operands]), he x (by simp [hop, Op.operands]), he y (by simp [hop, Op.operands])]
  | nilCheck x => simp only [evP, hop]; rw [he x (by simp [hop, Op.operands])]
  | binOp op t x y t' => simp only [evP, hop]; rw [he x (by simp [hop, Op.operands]), he y (by simp [hop, Op.operands])]
  | unOp op t x => simp only [evP, hop]; rw [he x (by simp [hop, Op.operands])]
  | convert s d x => simp only [evP, hop]; rw [he x (by simp [hop, Op.operands])]
  | makeFunc fn first caps =>
    simp only [evP, hop]
    rw [List.map_congr_left (fun x hx => he x (by simp [hop, Op.operands]; left; simpa using hx)), List.map_congr_left (fun x hx => he x (by simp [hop, Op.operands]; right; simpa using hx))]
  | slice t x lo hi mx =>
    simp only [evP, hop]
    have h1 := he x (by simp [hop, Op.operands])
    have h2 : ∀ d, boundS ev d lo = boundS ev' d lo := fun d => boundS_congr he (fun y hy => by subst hy; simp [hop, Op.operands])
    have h3 : ∀ d, boundS ev d hi = boundS ev' d hi := fun d => boundS_congr he (fun y hy => by subst hy; simp [hop, Op.operands])
    simp only [h1, h2, h3]
  | fieldAddr s x f => simp only [evP, hop]; rw [he x (by simp [hop, Op.operands])]
  | field s x f => simp only [evP, hop]; rw [he x (by simp [hop, Op.operands])]
  | indexAddr t x ix => simp only [evP, hop]; rw [he x (by simp [hop, Op.operands]), he ix (by simp [hop, Op.operands])]
  | index t x ix => simp only [evP, hop]; rw [he x (by simp [hop, Op.operands]), he ix (by simp [hop, Op.operands])]
  | extract x k => simp only [evP, hop]; rw [he x (by simp [hop, Op.operands])]
  | load t x => simp only [evP, hop]; rw [he x (by simp [hop, Op.operands])]
  | call c =>
    obtain ⟨callee, xs, ts⟩ := c
    have hxs : ∀ x, x ∈ xs.toList → ev x = ev' x := fun x hx => he x (by
      simp only [hop, Op.operands, Call.operands, Array.mem_append]
      right
      simpa using hx)
    cases callee with
    | builtin b =>
      cases b <;> (try (simp only [evP, hop]; done))
      · simp only [evP, hop]
        generalize xs.toList = l at hxs
        split
        · rename_i x t hts
          rw [hxs x (by simp)]
        · rfl
      all_goals
        simp only [evP, hop]
        generalize xs.toList = l at hxs
        split
        · rename_i x y
          rw [hxs x (by simp), hxs y (by simp)]
        · rfl
    | _ => simp only [evP, hop]
  | _ => simp only [evP, hop]
theorem ownIds_congr : ∀ {l : List S} {con : List Nat}, ownIds m l = some con → (∀ j, j ∈ con → m j = m' j) → ownIds m' l = some con ∧ (sameD m l → sameD m' l)
  | [], con, h, hm => by simp only [ownIds] at h ⊢; exact ⟨h, fun h => h⟩
  | x :: l, con, h, hm => by
    cases x with
    | d y =>
      cases y with
      | v y => simp only [ownIds, sameD] at h ⊢; exact ownIds_congr h hm
      | sl es => simp only [ownIds] at h; cases h
      | h x y => simp only [ownIds] at h; cases h
    | o j y =>
      simp only [ownIds, sameD] at h ⊢
      split at h
      · rename_i z r hj hr
        injection h with h
        subst h
        have ih := ownIds_congr hr (fun i hi => hm i (by simp [hi]))
        have e := hm j (by simp)
        rw [hj] at e
        rw [← e, ih.1]
        exact ⟨rfl, fun h => ⟨by rw [hj] at h; exact h.1, ih.2 h.2⟩⟩
      · cases h
    | g j y =>
      simp only [ownIds, sameD] at h ⊢
      split at h
      · rename_i z1 z2 z3 r hj hr
        injection h with h
        subst h
        have ih := ownIds_congr hr (fun i hi => hm i (by simp [hi]))
        have e := hm j (by simp)
        rw [hj] at e
        rw [← e, ih.1]
        exact ⟨rfl, fun h => ⟨by rw [hj] at h; exact h.1, ih.2 h.2⟩⟩
      · cases h
    | m j =>
      simp only [ownIds, sameD] at h ⊢
      split at h
      · rename_i z1 z2 z3 r hj hr
        injection h with h
        subst h
        have ih := ownIds_congr hr (fun i hi => hm i (by simp [hi]))
        have e := hm j (by simp)
        rw [hj] at e
        rw [← e, ih.1]
        exact ⟨rfl, ih.2⟩
      · cases h
    | _ => simp only [ownIds] at h; cases h
theorem toDms_congr : ∀ {l : List S}, (∀ j, j ∈ l.filterMap (fun | .m i => some i | _ => none) → m j = m' j) → toDms m l = toDms m' l
  | [], _ => rfl
  | x :: l, h => by
    have ih : toDms m l = toDms m' l := toDms_congr (fun j hj => h j (by
      simp only [List.filterMap_cons]
      split <;> simp_all))
    have hx : x.toDm m = x.toDm m' := by
      cases x <;> try rfl
      rename_i j
      simp only [S.toDm]
      rw [h j (by simp)]
    simp only [toDms, ih, hx]
mutual
theorem arg_congr : ∀ {x : S}, (∀ j, j ∈ x.reads m → m j = m' j) → x.arg m = x.arg m' ∧ x.reads m = x.reads m'
  | .u, _ => by simp only [S.arg, S.reads, and_self]
  | .d (.h _ _), _ => by simp only [S.arg, S.reads, and_self]
  | .d (.v _), _ => by simp only [S.arg, S.reads, and_self]
  | .d (.sl _), _ => by simp only [S.arg, S.reads, and_self]
  | .g _ _, _ => by simp only [S.arg, S.reads, and_self]
  | .o _ _, _ => by simp only [S.arg, S.reads, and_self]
  | .e _ _, _ => by simp only [S.arg, S.reads, and_self]
  | .t _, _ => by simp only [S.arg, S.reads, and_self]
  | .m j, h => by
    have := h j (by simp [S.reads])
    simp only [S.arg, S.reads, this, and_self]
  | .q j _ _ _, h => by
    have := h j (by simp [S.reads])
    simp only [S.arg, S.reads, this, and_self]
  | .p j k, h => by
    have hj : m j = m' j := h j (by simp only [S.reads]; split <;> simp)
    simp only [S.arg, S.reads, ← hj]
    refine ⟨?_, trivial⟩
    cases hb : m j with
    | box cells =>
      simp only
      rw [toDms_congr (m := m) (m' := m') (l := cells) (fun i hi => h i (by simp only [S.reads, hb]; exact List.mem_cons_of_mem _ hi))]
    | _ => rfl
  | .a l, h => by
    have := argl_congr (x := l) (by simpa only [S.reads] using h)
    simp only [S.arg, S.reads, this.1, this.2, and_self]
  | .f fn x y, h => by
    simp only [S.reads] at h
    have h1 := argl_congr (x := x) (fun j hj => h j (by simp [hj]))
    have h2 := argl_congr (x := y) (fun j hj => h j (by simp [hj]))
    simp only [S.arg, S.reads, h1.1, h1.2, h2.1, h2.2, and_self]
theorem argl_congr : ∀ {x : List S}, (∀ j, j ∈ S.readsl m x → m j = m' j) → S.argl m x = S.argl m' x ∧ S.readsl m x = S.readsl m' x
  | [], _ => by simp only [S.argl, S.readsl, and_self]
  | x :: l, h => by
    simp only [S.readsl] at h
    have h1 := arg_congr (x := x) (fun j hj => h j (by simp [hj]))
    have h2 := argl_congr (x := l) (fun j hj => h j (by simp [hj]))
    simp only [S.argl, S.readsl, h1.1, h1.2, h2.1, h2.2, and_self]
end
theorem partsS_congr : ∀ {l : List (Nat × Operand)}, (∀ x, x ∈ l → ev x.2 = ev' x.2) → partsS ev l = partsS ev' l
  | [], _ => rfl
  | (i, x) :: l, h => by
    simp only [partsS, h (i, x) (by simp), partsS_congr (l := l) (fun y hy => h y (by simp [hy]))]
theorem kill_keys : ∀ con : List Nat, (kill con).map (·.1) = con
  | [] => rfl
  | c :: l => by
    have := kill_keys l
    simp only [kill, List.map_cons] at this ⊢
    rw [this]
theorem preM_congr : ∀ {l : List (Nat × B)}, preM m l → (∀ j, j ∈ keysM l → m j = m' j) → preM m' l
  | [], _, _ => trivial
  | p :: l, h, hm => by
    simp only [preM] at h ⊢
    refine ⟨⟨by rw [← hm p.1 (by simp [keysM])]; exact h.1.1, h.1.2⟩, preM_congr h.2 (fun j hj => hm j (by simp only [keysM, List.map_cons, List.mem_cons]; exact .inr hj))⟩
theorem postM_congr {ks : List Nat} : ∀ {l : List (Nat × B)}, postM m ks l → (∀ j, j ∈ keysM l → m j = m' j) → postM m' ks l
  | [], _, _ => trivial
  | p :: l, h, hm => by
    simp only [postM] at h ⊢
    refine ⟨⟨h.1.1, h.1.2.1, h.1.2.2.imp id (fun e => by rw [← hm p.1 (by simp [keysM])]; exact e)⟩, postM_congr h.2 (fun j hj => hm j (by simp only [keysM, List.map_cons, List.mem_cons]; exact .inr hj))⟩
theorem Stp.congr {id : Nat} {r : Rec} (h : Stp P o id ev m r) (he : ∀ x, x ∈ o.op.operands → ev x = ev' x) (hm : ∀ j, j ∈ r.foot → m j = m' j) : Stp P o id ev' m' r := by
  have src : ∀ {y : Operand} {es2 : List (List D)} {n : Nat} {d2 : Bool} {con : List Nat}, y ∈ o.op.operands → (∀ j, j ∈ con → m j = m' j) →
      ((ev y).asL = some es2 ∧ (∀ e, e ∈ es2 → e.length = n) ∧ (d2 = true → ∀ e, e ∈ es2 → ∀ x, x ∈ e → x.flat) ∧ con = []) ∨ (∃ j2 e2, ev y = .g j2 es2 ∧ m j2 = .tip true e2 n es2 ∧ con = [j2]) ∨ (∃ j2, ev y = .o j2 (.sl es2) ∧ m j2 = .tok (.sl es2) ∧ (∀ e, e ∈ es2 → e.length = n) ∧ con = [j2]) →
      ((ev' y).asL = some es2 ∧ (∀ e, e ∈ es2 → e.length = n) ∧ (d2 = true → ∀ e, e ∈ es2 → ∀ x, x ∈ e → x.flat) ∧ con = []) ∨ (∃ j2 e2, ev' y = .g j2 es2 ∧ m' j2 = .tip true e2 n es2 ∧ con = [j2]) ∨ (∃ j2, ev' y = .o j2 (.sl es2) ∧ m' j2 = .tok (.sl es2) ∧ (∀ e, e ∈ es2 → e.length = n) ∧ con = [j2]) := by
    intro y es2 n d2 con hy hc h
    rw [he y hy] at h
    rcases h with h | ⟨j2, e2, h1, h2, rfl⟩ | ⟨j2, h1, h2, h3, rfl⟩
    · exact .inl h
    · exact .inr (.inl ⟨j2, e2, h1, by rw [← hc j2 (by simp)]; exact h2, rfl⟩)
    · exact .inr (.inr ⟨j2, h1, by rw [← hc j2 (by simp)]; exact h2, h3, rfl⟩)
  have own : ∀ {l : List S} {deep : Bool} {con : List Nat} {A : Prop}, (∀ j, j ∈ con → m j = m' j) → (if deep = true then A ∧ ownIds m l = some con ∧ sameD m l ∧ con.Nodup else con = []) → if deep = true then A ∧ ownIds m' l = some con ∧ sameD m' l ∧ con.Nodup else con = [] := by
    intro l deep con A hc h
    cases deep with
    | false => exact h
    | true =>
      simp only [if_true] at h ⊢
      have := ownIds_congr h.2.1 hc
      exact ⟨h.1, this.1, this.2 h.2.2.1, h.2.2.2⟩
  have own' : ∀ {l : List S} {deep : Bool} {con : List Nat}, (∀ j, j ∈ con → m j = m' j) → (if deep = true then ownIds m l = some con ∧ sameD m l ∧ con.Nodup else con = []) → if deep = true then ownIds m' l = some con ∧ sameD m' l ∧ con.Nodup else con = [] := by
    intro l deep con hc h
    cases deep with
    | false => exact h
    | true =>
      simp only [if_true] at h ⊢
      have := ownIds_congr h.1 hc
      exact ⟨this.1, this.2 h.2.1, h.2.2⟩
  cases h with
  | pure V h => exact .pure V (by rw [← evP_congr he]; exact h)
  | build t parts V ho h =>
    refine .build t parts V ho ?_
    have : partsS ev parts.toList = partsS ev' parts.toList := partsS_congr (fun x hx => he x.2 (by
      simp only [ho, Op.operands]
      simp only [List.mem_toArray, List.mem_map]
      exact ⟨x, hx, rfl⟩))
    unfold buildS at h ⊢
    rw [← this]
    exact h
  | box e x cells ho hx hm' => exact .box e x cells ho (by rw [← he x (by simp [ho, Op.operands])]; exact hx) (by rw [← hm id (by simp [Rec.foot, Rec.keys])]; exact hm')
  | alloc e z ho hz hm' => exact .alloc e z ho hz (by rw [← hm id (by simp [Rec.foot, Rec.keys])]; exact hm')
  | load t x j k cells V ho hx hj hV => exact .load t x j k cells V ho (by rw [← he x (by simp [ho, Op.operands])]; exact hx) (by rw [← hm j (by simp [Rec.foot, Rec.keys])]; exact hj) hV
  | loadq t x j n i k deep e es el V ho hx hj hel hV => exact .loadq t x j n i k deep e es el V ho (by rw [← he x (by simp [ho, Op.operands])]; exact hx) (by rw [← hm j (by simp [Rec.foot, Rec.keys])]; exact hj) hel hV
  | store t x y j k cells vs ho hx hj hy hl ht => exact .store t x y j k cells vs ho (by rw [← he x (by simp [ho, Op.operands])]; exact hx) (by rw [← hm j (by simp [Rec.foot, Rec.keys])]; exact hj) (by rw [← he y (by simp [ho, Op.operands])]; exact hy) hl ht
  | storeq t x y j n i k deep deep' e es el ds vs con ho hx hj hel hy hds hl ht hdeep hjc =>
    exact .storeq t x y j n i k deep deep' e es el ds vs con ho (by rw [← he x (by simp [ho, Op.operands])]; exact hx) (by rw [← hm j (by simp [Rec.foot, Rec.keys])]; exact hj) hel (by rw [← he y (by simp [ho, Op.operands])]; exact hy) hds hl ht
      (own (fun i hi => hm i (by simp only [Rec.foot, Rec.keys, List.map_cons, kill_keys]; simp [hi])) hdeep) hjc
  | lenm x t e' j n deep e es ho ht hx hj => exact .lenm x t e' j n deep e es ho ht (by rw [← he x (by simp [ho, Op.operands, Call.operands])]; exact hx) (by rw [← hm j (by simp [Rec.foot, Rec.keys])]; exact hj)
  | idxm x ix t j n i k deep e inf es ho ht hx hj hix hlt hinf hn =>
    exact .idxm x ix t j n i k deep e inf es ho ht (by rw [← he x (by simp [ho, Op.operands])]; exact hx) (by rw [← hm j (by simp [Rec.foot, Rec.keys])]; exact hj) (by rw [← he ix (by simp [ho, Op.operands])]; exact hix) hlt hinf hn
  | lit t e n bytes len parts ps out ds deep con ho hel hsm hps hout hds hm' hdeep =>
    have : partsS ev parts.toList = partsS ev' parts.toList := partsS_congr (fun x hx => he x.2 (by
      simp only [ho, Op.operands]
      simp only [List.mem_toArray, List.mem_map]
      exact ⟨x, hx, rfl⟩))
    exact .lit t e n bytes len parts ps out ds deep con ho hel hsm (by rw [← this]; exact hps) hout hds (by rw [← hm id (by simp [Rec.foot, Rec.keys])]; exact hm')
      (own' (fun i hi => hm i (by simp only [Rec.foot, Rec.keys, List.map_cons, kill_keys]; simp [hi])) hdeep)
  | make t e n bytes x y k1 k2 l zs ds ho hel hzc hds hfl hs hx hy hby h63 hm' =>
    exact .make t e n bytes x y k1 k2 l zs ds ho hel hzc hds hfl hs (by rw [← he x (by simp [ho, Op.operands])]; exact hx) (by rw [← he y (by simp [ho, Op.operands])]; exact hy) hby h63 (by rw [← hm id (by simp [Rec.foot, Rec.keys])]; exact hm')
  | app x y t e n bytes j d1 d2 deep es es2 con ho hel hx hj hy hd hjc h63 hby =>
    exact .app x y t e n bytes j d1 d2 deep es es2 con ho hel (by rw [← he x (by simp [ho, Op.operands, Call.operands])]; exact hx) (by rw [← hm j (by simp [Rec.foot, Rec.keys])]; exact hj)
      (src (by simp [ho, Op.operands, Call.operands]) (fun i hi => hm i (by simp only [Rec.foot, Rec.keys, List.map_cons, kill_keys]; simp [hi])) hy) hd hjc h63 hby
  | appNil x y t e n bytes d2 es2 con ho hel hx hm' hy hjc h63 hby =>
    exact .appNil x y t e n bytes d2 es2 con ho hel (by rw [← he x (by simp [ho, Op.operands, Call.operands])]; exact hx) (by rw [← hm id (by simp [Rec.foot, Rec.keys])]; exact hm')
      (src (by simp [ho, Op.operands, Call.operands]) (fun i hi => hm i (by simp only [Rec.foot, Rec.keys, List.map_cons, kill_keys]; simp [hi])) hy) hjc h63 hby
  | call f xs ts g first caps args V ho hf ha hc hsol hnone =>
    have e1 : xs.toList.map ev = xs.toList.map ev' := List.map_congr_left (fun x hx => he x (by
      simp only [ho, Op.operands, Call.operands, Array.mem_append]
      right
      simpa using hx))
    have hc2 := argl_congr (m := m) (m' := m') (x := first ++ xs.toList.map ev ++ caps) (fun j hj => hm j (by simp only [Rec.foot, List.mem_append]; exact .inr hj))
    rw [e1] at hc2 ha hsol ⊢
    rw [hc2.2]
    refine .call f xs ts g first caps args V ho (by rw [← he f (by simp [ho, Op.operands, Call.operands])]; exact hf) (by rw [← hc2.1]; exact ha) hc (by rw [← hc2.2]; exact hsol) (fun p hp => ?_)
    rw [← hm (id + p.1) (by
      simp only [Rec.foot, Rec.keys, List.mem_append]
      left
      exact List.mem_map.2 ⟨(id + p.1, .tok p.2), List.mem_map.2 ⟨p, hp, rfl⟩, rfl⟩)]
    exact hnone p hp
  | callw f xs ts g first caps args V M M' ho hf ha hc hpre hpost =>
    have e1 : xs.toList.map ev = xs.toList.map ev' := List.map_congr_left (fun x hx => he x (by
      simp only [ho, Op.operands, Call.operands, Array.mem_append]
      right
      simpa using hx))
    rw [e1] at ha
    exact .callw f xs ts g first caps args V M M' ho (by rw [← he f (by simp [ho, Op.operands, Call.operands])]; exact hf) ha hc (preM_congr hpre (fun j hj => hm j (by simp only [Rec.foot, List.mem_append]; exact .inr hj)))
      (postM_congr hpost (fun j hj => hm j (by simp only [Rec.foot, Rec.keys, List.mem_append]; exact .inl hj)))
end
end Go.Proofs.Ytpcjhnbifgjleaa.Ab

/- Regions that draw their order. -/
namespace Go.Proofs.Ytpcjhnbifgjleaa.Ab
set_option linter.unusedSectionVars false
set_option linter.unusedSimpArgs false
set_option linter.constructorNameAsVariable false
open Go.RowKit
set_option linter.unusedVariables false
set_option maxRecDepth 100000
set_option linter.unusedSectionVars false

/-- What an operation touches. -/
def footO : Option Rec → List Nat
  | some r => r.foot
  | none => []
def keysO : Option Rec → List Nat
  | some r => r.keys
  | none => []
/-- Two operations do not touch what the other writes. -/
def apartR (x y : Option Rec) : Prop := (∀ k, k ∈ keysO x → k ∉ footO y) ∧ ∀ k, k ∈ keysO y → k ∉ footO x
def recAt (rs : List (Option Rec)) (i : Nat) : Option Rec := (rs[i]?).getD none
def aOp (P : Program) (ops : List Oper) (nx : Nat) (rs : List (Option Rec)) (i : Nat) (K : St → Prop) (s : St) : Prop :=
  match ops[i]? with
  | none => K s
  | some o => One P ops o (nx + 16 * i) s (recAt rs i) ∧ K (s.step o.dst (recAt rs i))
def wpAnyA (P : Program) (ops : List Oper) (nx : Nat) (rs : List (Option Rec)) (Q : St → Prop) : Nat → Array Bool → St → Prop
  | 0, listed, s => Region.ready .any ops.toArray listed = [] ∧ Q s
  | fuel + 1, listed, s => (Region.ready .any ops.toArray listed = [] → Q s) ∧ ∀ i, i ∈ Region.ready .any ops.toArray listed → aOp P ops nx rs i (wpAnyA P ops nx rs Q fuel (listed.setIfInBounds i true)) s
section
variable {P : Program} {ops : List Oper} {nx : Nat} {rs : List (Option Rec)} {w0 : Base} {w : World} {G : Gh} {s : St} {a : Act} {Q : St → Prop}
theorem aOp_mono {i : Nat} {K K' : St → Prop} (h : ∀ s, K s → K' s) (hh : aOp P ops nx rs i K s) : aOp P ops nx rs i K' s := by
  unfold aOp at *
  split
  · simp only [*] at hh; exact h _ hh
  · rename_i o ho
    simp only [ho] at hh
    exact ⟨hh.1, h _ hh.2⟩
/-- Every order of the states is an order of the model. -/
theorem wpAny_of_a {Q' : Exit → Act → World → Prop} (hQ : ∀ s a w G, Q s → Inv w0 s a w G → Q' .normal a w) : ∀ (fuel : Nat) (listed : Array Bool) (s : St) (a : Act) (w : World) (G : Gh), Inv w0 s a w G → wpAnyA P ops nx rs Q fuel listed s → wpAny P .any ops.toArray Q' fuel listed a w
  | 0, _, s, a, w, G, hi, h => ⟨h.1, hQ s a w G h.2 hi⟩
  | fuel + 1, listed, s, a, w, G, hi, h => by
    refine ⟨fun h0 => hQ s a w G (h.1 h0) hi, fun i hir => ?_⟩
    have h2 := h.2 i hir
    unfold aOp at h2
    unfold wpOp
    simp only [List.getElem?_toArray]
    cases ho : ops[i]? with
    | none =>
      simp only [ho] at h2
      exact wpAny_of_a hQ fuel _ s a w G hi h2
    | some o =>
      simp only [ho] at h2
      obtain ⟨h3, h4⟩ := h2
      cases hr : recAt rs i with
      | some r =>
        rw [hr] at h3 h4
        simp only [One] at h3
        simp only
        rw [if_pos (asked_ok hi h3.1)]
        exact .inl (h3.2.sound hi (fun v w' G' hi' => wpAny_of_a hQ fuel _ _ _ w' G' hi' h4))
      | none =>
        rw [hr] at h3 h4
        simp only [One] at h3
        simp only
        rw [if_neg (by rw [asked_ok hi h3]; exact Bool.false_ne_true)]
        exact wpAny_of_a hQ fuel _ _ _ w G (hi.skip o.dst) h4
/-- A state behind a step: slots but one, numbers but the written ones, are as they were. -/
theorem step_ev (s : St) (d : Option Tmp) (r : Option Rec) {x : Operand} (h : ∀ t, d = some t → x ≠ .tmp t) : (s.step d r).ev x = s.ev x := by
  have key : ∀ V, (s.put d V).ev x = s.ev x := fun V => by
    cases d with
    | none => rfl
    | some t =>
      cases x with
      | tmp u =>
        have hne : u ≠ t := fun e => h t rfl (by rw [e])
        simp only [St.put, St.ev]
        by_cases h2 : t < s.n
        · simp only [if_pos h2, upd_ne _ _ _ hne]
        · simp only [if_neg h2]
      | _ => rfl
  cases r with
  | none => exact key _
  | some r => exact key r.V
theorem step_m (s : St) (d : Option Tmp) (r : Option Rec) {j : Nat} (h : j ∉ keysO r) : (s.step d r).m j = s.m j := by
  cases r with
  | none => simp only [St.step, St.put_m]
  | some r => exact upds_not r.w s.m j h
theorem looks_operand {o : Oper} {x : Tmp} (h : Operand.tmp x ∈ o.op.operands) : x ∈ o.looksAt ops.toArray := by
  exact List.mem_append_left _ (List.mem_filterMap.2 ⟨.tmp x, by simpa using h, rfl⟩)
theorem looks_guard {o : Oper} {j : Nat} {want : Bool} {d : Tmp} (hg : o.guard = some (j, want)) (hd : (ops[j]?).bind (·.dst) = some d) : d ∈ o.looksAt ops.toArray := by
  refine List.mem_append_right _ ?_
  rw [hg]
  simp only [List.getElem?_toArray, hd]
  simp
theorem said_step (s : St) (d : Option Tmp) (r : Option Rec) {j : Nat} (h : ∀ t, d = some t → (ops[j]?).bind (·.dst) ≠ some t) : (s.step d r).said ops j = s.said ops j := by
  unfold St.said
  split
  · rename_i t ht
    rw [step_ev s d r (fun u hu e => h u hu (by injection e with e; rw [ht, e]))]
  · rfl
theorem asked_step {o : Oper} (s : St) (d : Option Tmp) (r : Option Rec) (h : ∀ t, d = some t → t ∉ o.looksAt ops.toArray) : (s.step d r).asked ops o = s.asked ops o := by
  unfold St.asked
  split
  · rfl
  · rename_i j want hg
    rw [said_step s d r (fun t ht e => h t ht (looks_guard hg e))]
theorem One.step {o : Oper} {id : Nat} {x : Option Rec} (h : One P ops o id s x) (d : Option Tmp) (r : Option Rec) (hd : ∀ t, d = some t → t ∉ o.looksAt ops.toArray) (hr : ∀ k, k ∈ keysO r → k ∉ footO x) : One P ops o id (s.step d r) x := by
  cases x with
  | none =>
    simp only [One] at h ⊢
    rw [asked_step s d r hd]
    exact h
  | some x =>
    simp only [One] at h ⊢
    rw [asked_step s d r hd]
    refine ⟨h.1, h.2.congr (fun y hy => ?_) (fun j hj => ?_)⟩
    · exact (step_ev s d r (fun t ht e => hd t ht (looks_operand (by rw [← e]; exact hy)))).symm
    · exact (step_m s d r (fun hk => hr j hk hj)).symm
theorem One.back {o : Oper} {id : Nat} {x : Option Rec} (d : Option Tmp) (r : Option Rec) (h : One P ops o id (s.step d r) x) (hd : ∀ t, d = some t → t ∉ o.looksAt ops.toArray) (hr : ∀ k, k ∈ keysO r → k ∉ footO x) : One P ops o id s x := by
  cases x with
  | none =>
    simp only [One] at h ⊢
    rw [asked_step s d r hd] at h
    exact h
  | some x =>
    simp only [One] at h ⊢
    rw [asked_step s d r hd] at h
    refine ⟨h.1, h.2.congr (fun y hy => ?_) (fun j hj => ?_)⟩
    · exact step_ev s d r (fun t ht e => hd t ht (looks_operand (by rw [← e]; exact hy)))
    · exact step_m s d r (fun hk => hr j hk hj)
theorem upd_comm {α : Type} (f : Nat → α) {i j : Nat} (u v : α) (h : i ≠ j) : upd (upd f i u) j v = upd (upd f j v) i u := by
  funext k
  by_cases h1 : k = i
  · subst h1; rw [upd_ne _ _ _ h, upd_same, upd_same]
  · by_cases h2 : k = j
    · subst h2; rw [upd_same, upd_ne _ _ _ h1, upd_same]
    · rw [upd_ne _ _ _ h2, upd_ne _ _ _ h1, upd_ne _ _ _ h1, upd_ne _ _ _ h2]
theorem upds_upd : ∀ (l : List (Nat × B)) (m : Nat → B) (p : Nat × B), p.1 ∉ l.map (·.1) → upds (upd m p.1 p.2) l = upd (upds m l) p.1 p.2
  | [], m, p, _ => rfl
  | q :: l, m, p, h => by
    simp only [List.map_cons, List.mem_cons, not_or] at h
    simp only [upds]
    rw [upd_comm m p.2 q.2 h.1, upds_upd l _ p h.2]
theorem upds_comm : ∀ (l l' : List (Nat × B)) (m : Nat → B), (∀ k, k ∈ l.map (·.1) → k ∉ l'.map (·.1)) → upds (upds m l) l' = upds (upds m l') l
  | [], l', m, _ => rfl
  | p :: l, l', m, h => by
    simp only [upds]
    rw [upds_comm l l' _ (fun k hk => h k (by simp only [List.map_cons, List.mem_cons]; exact .inr hk)), upds_upd l' m p (h p.1 (by simp))]
theorem put_comm (s : St) {d d' : Option Tmp} (u v : S) (h : ∀ t, d = some t → d' ≠ some t) : (s.put d u).put d' v = (s.put d' v).put d u := by
  cases d with
  | none => rfl
  | some t =>
    cases d' with
    | none => rfl
    | some t' =>
      have hne : t ≠ t' := fun e => h t rfl (by rw [e])
      simp only [St.put]
      by_cases h1 : t < s.n <;> by_cases h2 : t' < s.n <;> simp only [h1, h2, if_true, if_false]
      rw [upd_comm _ _ _ hne]
theorem put_withm (s : St) (d : Option Tmp) (u : S) (m : Nat → B) : ({ s with m := m } : St).put d u = { s.put d u with m := m } := by
  cases d <;> rfl
theorem step_comm (s : St) {d d' : Option Tmp} {r r' : Option Rec} (h : ∀ t, d = some t → d' ≠ some t) (hr : ∀ k, k ∈ keysO r → k ∉ keysO r') : (s.step d r).step d' r' = (s.step d' r').step d r := by
  cases r with
  | none =>
    cases r' with
    | none => exact put_comm s _ _ h
    | some r' =>
      simp only [St.step, St.app, put_comm s (.t []) r'.V h, St.put_m, put_withm]
  | some r =>
    cases r' with
    | none =>
      simp only [St.step, St.app, put_withm, put_comm s r.V (.t []) h, St.put_m]
    | some r' =>
      simp only [St.step, St.app, put_withm, put_comm s r.V r'.V h]
      congr 1
      exact upds_comm r.w r'.w s.m hr
theorem foot_keys (r : Option Rec) : ∀ k, k ∈ keysO r → k ∈ footO r := by
  cases r with
  | none => exact fun k h => h
  | some r => exact fun k h => List.mem_append_left _ h
theorem aOp_put {i j : Nat} {oi oj : Oper} {K : St → Prop} (hj : ops[j]? = some oj) (hap : oi.apart ops.toArray oj = true) (har : apartR (recAt rs i) (recAt rs j)) (hy : One P ops oi (nx + 16 * i) s (recAt rs i)) (h : aOp P ops nx rs j K (s.step oi.dst (recAt rs i))) :
    aOp P ops nx rs j (fun s' => One P ops oi (nx + 16 * i) s' (recAt rs i) ∧ K (s'.step oi.dst (recAt rs i))) s := by
  obtain ⟨h1, h2, h3⟩ := Oper.apart_spec hap
  unfold aOp at *
  simp only [hj] at *
  obtain ⟨h4, h5⟩ := h
  refine ⟨h4.back oi.dst (recAt rs i) h1 har.1, hy.step oj.dst (recAt rs j) h3 har.2, ?_⟩
  rw [← step_comm s h2 (fun k hk hk' => har.1 k hk (foot_keys _ k hk'))]
  exact h5
/-- The operation must wait for that one. -/
inductive Waits (ops : List Oper) (i : Nat) : Nat → Prop
  | here {j : Nat} {oj : Oper} {e} : ops[j]? = some oj → i < j → e ∈ oj.after → Region.binds .any e = true → e.on = i → Waits ops i j
  | step {j k : Nat} {oj : Oper} {e} : ops[j]? = some oj → i < j → e ∈ oj.after → Region.binds .any e = true → e.on = k → Waits ops i k → Waits ops i j
theorem Waits.lt {i j : Nat} (h : Waits ops i j) : i < j ∧ ∃ oj, ops[j]? = some oj := by
  cases h with
  | here h1 h2 => exact ⟨h2, _, h1⟩
  | step h1 h2 => exact ⟨h2, _, h1⟩
theorem wpAnyA_first {i : Nat} {oi : Oper} (hi : ops[i]? = some oi) : ∀ (fuel : Nat) (listed : Array Bool) (s : St),
    (∀ j oj, ops[j]? = some oj → j ≠ i → listed.getD j true = false → (∀ e ∈ oj.after, Region.binds .any e = true → e.on ≠ i) → ¬ Waits ops i j → oi.apart ops.toArray oj = true ∧ apartR (recAt rs i) (recAt rs j)) → (∀ k, Waits ops i k → listed.getD k true = false) →
    i ∈ Region.ready .any ops.toArray listed → One P ops oi (nx + 16 * i) s (recAt rs i) → wpAnyA P ops nx rs Q fuel (listed.setIfInBounds i true) (s.step oi.dst (recAt rs i)) → wpAnyA P ops nx rs Q (fuel + 1) listed s := by
  intro fuel
  induction fuel with
  | zero =>
    intro listed s _ _ hr hy H
    refine ⟨fun h => (by rw [h] at hr; cases hr), fun j hj => ?_⟩
    by_cases hji : j = i
    · subst hji; unfold aOp; simp only [hi]; exact ⟨hy, H⟩
    · have := ready_mono hj hji
      rw [H.1] at this
      cases this
  | succ fuel ih =>
    intro listed s hfree hwait hr hy H
    refine ⟨fun h => (by rw [h] at hr; cases hr), fun j hj => ?_⟩
    by_cases hji : j = i
    · subst hji; unfold aOp; simp only [hi]; exact ⟨hy, H⟩
    · have h1 := H.2 j (ready_mono hj hji)
      obtain ⟨hjun, oj, hoj, hall⟩ := mem_ready.1 hj
      have hnot : ∀ e ∈ oj.after, Region.binds .any e = true → e.on ≠ i := fun e he hb heq => by
        have h1 := hall e he hb
        have h0 := (mem_ready.1 hr).1
        rw [heq] at h1
        rcases Nat.lt_or_ge i listed.size with h' | h'
        · simp [h'] at h0 h1; rw [h0] at h1; cases h1
        · simp [Array.getElem?_eq_none h'] at h1
      have hoj' : ops[j]? = some oj := by simpa using hoj
      have hnw : ¬ Waits ops i j := fun hw => by
        cases hw with
        | here h1 _ h3 h4 h5 =>
          rw [hoj'] at h1
          injection h1 with h1
          subst h1
          exact hnot _ h3 h4 h5
        | step h1 _ h3 h4 h5 h6 =>
          rw [hoj'] at h1
          injection h1 with h1
          subst h1
          have h7 := hall _ h3 h4
          have h8 := hwait _ h6
          rw [← h5] at h8
          rename_i e _
          rcases Nat.lt_or_ge e.on listed.size with h9 | h9
          · simp [h9] at h7 h8; rw [h7] at h8; cases h8
          · simp [Array.getElem?_eq_none h9] at h7
      have hap := hfree j oj hoj' hji hjun hnot hnw
      have h2 := aOp_put hoj' hap.1 hap.2 hy h1
      have hfree' : ∀ k ok, ops[k]? = some ok → k ≠ i → (listed.setIfInBounds j true).getD k true = false →
          (∀ e ∈ ok.after, Region.binds .any e = true → e.on ≠ i) → ¬ Waits ops i k → oi.apart ops.toArray ok = true ∧ apartR (recAt rs i) (recAt rs k) := fun k ok hk hki hun hno hnk => by
        refine hfree k ok hk hki ?_ hno hnk
        by_cases hjk : j = k
        · subst hjk; exact hjun
        · rw [getD_set_ne true hjk] at hun; exact hun
      refine aOp_mono (fun s' h3 => ih (listed.setIfInBounds j true) s' hfree' (fun k hk => by
        have hjk : j ≠ k := fun e => hnw (e ▸ hk)
        rw [getD_set_ne true hjk]
        exact hwait k hk) (ready_mono hr (Ne.symm hji)) h3.1 ?_) h2
      rw [Array.setIfInBounds_comm _ _ hji]
      exact h3.2
/-- Each two operations, the later one not waiting for the earlier, do not touch what the other writes. -/
def apartAll (ops : List Oper) (rs : List (Option Rec)) : Prop :=
  ∀ i j oj, ops[j]? = some oj → i < j → ¬ Waits ops i j → apartR (recAt rs i) (recAt rs j)
theorem wpAnyA_lex (hap : apartAll ops rs) : ∀ (l : List Oper) (k : Nat) (listed : Array Bool) (s s' : St) (rs' : List (Option Rec)), (∀ j, l[j]? = ops[k + j]?) → (∀ j, rs'[j]? = rs[k + j]?) → (∀ j, j < k → listed.getD j true = true) → (∀ j, k ≤ j → j < ops.length → listed.getD j true = false) →
    Region.lexFrom .any ops.toArray l.length k listed = true → Run P ops l (nx + 16 * k) s rs' s' → Q s' → wpAnyA P ops nx rs Q l.length listed s
  | [], k, listed, s, s', rs', _, _, _, _, hB, h, hQ => by
    simp only [Run] at h
    obtain ⟨_, rfl⟩ := h
    exact ⟨by simpa [Region.lexFrom] using hB, hQ⟩
  | o :: l, k, listed, s, s', rs', hl, hrs, hdone, hopen, hB, h, hQ => by
    have h0 : ops[k]? = some o := by simpa using (hl 0).symm
    simp only [Run] at h
    obtain ⟨r, rs2, rfl, h1, h2⟩ := h
    have hr0 : recAt rs k = r := by
      have := hrs 0
      simp at this
      unfold recAt
      rw [← this]
      rfl
    simp only [List.length_cons, Region.lexFrom, Bool.and_eq_true] at hB
    obtain ⟨⟨hr, hf⟩, hB'⟩ := hB
    have h0' : (ops.toArray)[k]? = some o := by simpa using h0
    refine wpAnyA_first h0 l.length listed s (fun j oj hj hne hun hno hnw => ⟨Region.free_spec h0' hf j oj (by simpa using hj) hne hun hno, ?_⟩) (fun j hj => by obtain ⟨h1, oj, h2⟩ := hj.lt; exact hopen j (by omega) (List.getElem?_eq_some_iff.1 h2).1) (by simpa using hr) (by rw [hr0]; exact h1) ?_
    · have hkj : k < j := by
        rcases Nat.lt_trichotomy j k with h | h | h
        · have := hdone j h
          rw [this] at hun
          cases hun
        · exact (hne h).elim
        · exact h
      exact hap k j oj hj hkj hnw
    · rw [hr0]
      refine wpAnyA_lex hap l (k + 1) _ _ s' rs2 (fun j => by have := hl (j + 1); simpa [Nat.add_assoc, Nat.add_comm 1 j] using this) (fun j => by have := hrs (j + 1); simpa [Nat.add_assoc, Nat.add_comm 1 j] using this) (fun j hj => ?_) (fun j hj hj2 => by rw [getD_set_ne true (by omega)]; exact hopen j (by omega) hj2) hB' (by rw [show nx + 16 * (k + 1) = nx + 16 * k + 16 by omega]; exact h2) hQ
      by_cases e : j = k
      · subst e
        have hlt : j < listed.size ∨ ¬ j < listed.size := Nat.lt_or_ge _ _ |>.imp id (fun h => by omega)
        rcases hlt with h | h
        · simp [h]
        · simp [h]
      · rw [getD_set_ne true (fun h => e h.symm)]
        exact hdone j (by omega)
/-- A region that draws its order: one walk of its text. -/
theorem Ab.regionD {id : Nat} {Q : Exit → St → Prop} {s' : St} (hm : P.follows .mixedOrders = true) (hB : Region.lexB .any ops.toArray = true) (h : Run P ops ops s.nx s rs s') (hap : apartAll ops rs) (hQ : Q .normal { s' with nx := s.nx + 16 * ops.length }) : Ab P (.region id ops.toArray true) Q s := by
  intro w0 a w G hi
  have hi' : Inv w0 s a { w with drawn := w.drawn + 1 } G := by
    have hb : Below w0.heap.size w { w with drawn := w.drawn + 1 } := ⟨rfl, rfl, rfl, Nat.le_refl _, fun _ _ => rfl⟩
    have hk : Keep s.m w G { w with drawn := w.drawn + 1 } G := ⟨fun b o h => ⟨h, rfl⟩, fun _ _ => rfl, fun _ _ => rfl, fun _ _ => .inl ⟨rfl, rfl⟩⟩
    refine ⟨hi.below.trans hb, hi.defers, hi.size, fun t ht => ⟨(hi.slots t ht).1.keep hk (hi.slots t ht).2, (hi.slots t ht).2⟩, hi.kold, hi.kin, fun id => ?_, hi.disj⟩
    by_cases hl : (s.m id).live
    · exact (hi.mem id).keep hk (fun _ h => h) (fun e => by rw [e] at hl; exact hl) (fun k _ => ⟨rfl, fun _ => Iff.rfl⟩) rfl ⟨rfl, rfl⟩ (Nat.le_refl _)
    · generalize s.m id = x at hl
      cases x <;> first | trivial | exact (hl trivial).elim
  simp only [Region.lexB, Bool.and_eq_true] at hB
  have h2 := wpAnyA_lex (P := P) (nx := s.nx) (Q := fun s2 => s2 = s') hap ops 0 (Array.replicate ops.toArray.size false) s s' rs (by simp) (by simp) (by omega) (fun j _ hj => by simp [hj]) (by simpa using hB.2) (by simpa using h) rfl
  refine wp_region_any hm ?_
  have := wpAny_of_a (w0 := w0) (Q := fun s2 => s2 = s') (Q' := fun e a' w' => ∃ s'' G', Q e s'' ∧ Inv w0 s'' a' w' G') (fun s2 a2 w2 G2 e hi2 => by subst e; exact ⟨_, G2, hQ, hi2.nx _⟩) ops.length (Array.replicate ops.toArray.size false) s a _ G hi' h2
  simpa using this
end
def disjB : List Nat → List Nat → Bool
  | [], _ => true
  | k :: l, l' => !(l'.contains k) && disjB l l'
theorem disjB_ok : ∀ {l l' : List Nat}, disjB l l' = true → ∀ k, k ∈ l → k ∉ l'
  | [], l', _, k, h => by simp at h
  | x :: l, l', h, k, hk => by
    simp only [disjB, Bool.and_eq_true, Bool.not_eq_true', List.contains_eq_mem, decide_eq_false_iff_not] at h
    rcases List.mem_cons.1 hk with rfl | hk
    · exact h.1
    · exact disjB_ok h.2 k hk
/-- Does operation i touch nothing of the later ones that need not wait for it? -/
def apartFrom (r : Option Rec) (i : Nat) : Nat → List Nat → List Oper → List (Option Rec) → Bool
  | j, ws, o :: l, q :: rs => if o.after.toList.any (fun e => Region.binds .any e && (e.on == i || ws.contains e.on)) then apartFrom r i (j + 1) (j :: ws) l rs
    else disjB (keysO r) (footO q) && disjB (keysO q) (footO r) && apartFrom r i (j + 1) ws l rs
  | _, _, _, _ => true
def apartB : Nat → List Oper → List (Option Rec) → Bool
  | i, _ :: l, r :: rs => apartFrom r i (i + 1) [] l rs && apartB (i + 1) l rs
  | _, _, _ => true
theorem apartFrom_ok {ops : List Oper} {r : Option Rec} {i : Nat} : ∀ {l : List Oper} {rs : List (Option Rec)} {j : Nat} {ws : List Nat}, apartFrom r i j ws l rs = true → (∀ t, l[t]? = ops[j + t]?) → (∀ k, k ∈ ws → Waits ops i k) → i < j → ∀ t ot, l[t]? = some ot → ¬ Waits ops i (j + t) → apartR r (recAt rs t)
  | [], rs, j, ws, _, _, _, _, t, ot, ht, _ => by simp at ht
  | o :: l, [], j, ws, h, _, _, _, t, ot, ht, hno => by
    have : recAt [] t = none := by simp [recAt]
    rw [this]
    exact ⟨fun k _ h => by simp [footO] at h, fun k h => by simp [keysO] at h⟩
  | o :: l, q :: rs, j, ws, h, hl, hws, hij, t, ot, ht, hno => by
    have h0 : ops[j]? = some o := by simpa using (hl 0).symm
    have hl' : ∀ t, l[t]? = ops[j + 1 + t]? := fun t => by have := hl (t + 1); simpa [Nat.add_assoc, Nat.add_comm 1 t] using this
    simp only [apartFrom] at h
    split at h
    · rename_i ha
      have hw : Waits ops i j := by
        rw [List.any_eq_true] at ha
        obtain ⟨e, he, hb⟩ := ha
        simp only [Bool.and_eq_true, Bool.or_eq_true, beq_iff_eq, List.contains_eq_mem, decide_eq_true_eq] at hb
        rcases hb.2 with h1 | h1
        · exact .here h0 hij (by simpa using he) hb.1 h1
        · exact .step h0 hij (by simpa using he) hb.1 rfl (hws _ h1)
      cases t with
      | zero => exact (hno hw).elim
      | succ t =>
        have e : recAt (q :: rs) (t + 1) = recAt rs t := by simp [recAt]
        rw [e]
        exact apartFrom_ok h hl' (fun k hk => by rcases List.mem_cons.1 hk with rfl | hk; exact hw; exact hws k hk) (by omega) t ot (by simpa using ht) (by rwa [show j + 1 + t = j + (t + 1) by omega])
    · simp only [Bool.and_eq_true] at h
      cases t with
      | zero =>
        have e : recAt (q :: rs) 0 = q := by simp [recAt]
        rw [e]
        exact ⟨disjB_ok h.1.1, disjB_ok h.1.2⟩
      | succ t =>
        have e : recAt (q :: rs) (t + 1) = recAt rs t := by simp [recAt]
        rw [e]
        exact apartFrom_ok h.2 hl' hws (by omega) t ot (by simpa using ht) (by rwa [show j + 1 + t = j + (t + 1) by omega])
theorem apartB_ok {ops : List Oper} : ∀ {n : Nat} {l : List Oper} {rs : List (Option Rec)}, apartB n l rs = true → (∀ t, l[t]? = ops[n + t]?) → ∀ i j oj, l[j]? = some oj → i < j → ¬ Waits ops (n + i) (n + j) → apartR (recAt rs i) (recAt rs j)
  | n, [], rs, _, _, i, j, oj, hj, _, _ => by simp at hj
  | n, o :: l, [], h, _, i, j, oj, hj, _, _ => by
    have : ∀ i, recAt [] i = none := by simp [recAt]
    rw [this, this]
    exact ⟨fun k h => by simp [keysO] at h, fun k h => by simp [keysO] at h⟩
  | n, o :: l, r :: rs, h, hl, i, j, oj, hj, hij, hno => by
    simp only [apartB, Bool.and_eq_true] at h
    have hl' : ∀ t, l[t]? = ops[n + 1 + t]? := fun t => by have := hl (t + 1); simpa [Nat.add_assoc, Nat.add_comm 1 t] using this
    cases j with
    | zero => omega
    | succ j =>
      have e : recAt (r :: rs) (j + 1) = recAt rs j := by simp [recAt]
      rw [e]
      cases i with
      | zero =>
        have e : recAt (r :: rs) 0 = r := by simp [recAt]
        rw [e]
        exact apartFrom_ok h.1 hl' (by simp) (by omega) j oj (by simpa using hj) (by rw [show n + 1 + j = n + (j + 1) by omega]; simpa using hno)
      | succ i =>
        have e : recAt (r :: rs) (i + 1) = recAt rs i := by simp [recAt]
        rw [e]
        exact apartB_ok h.2 hl' i j oj (by simpa using hj) (by omega) (by rw [show n + 1 + i = n + (i + 1) by omega, show n + 1 + j = n + (j + 1) by omega]; exact hno)
theorem Ab.regionD' {P : Program} {id : Nat} {ops : List Oper} {Q : Exit → St → Prop} {s : St} (hm : P.follows .mixedOrders = true) (hB : Region.lexB .any ops.toArray = true) (h : evOps P ops ops s.nx s [] fun s' rs => apartB 0 ops rs = true ∧ Q .normal { s' with nx := s.nx + 16 * ops.length }) : Ab P (.region id ops.toArray true) Q s := by
  obtain ⟨rs, s', h1, h2, h3⟩ := evOps_run h
  refine Ab.regionD hm hB h1 (fun i j oj hj hij hno => apartB_ok (ops := ops) (n := 0) h2 (by simp) i j oj hj hij (by simpa using hno)) h3
end Go.Proofs.Ytpcjhnbifgjleaa.Ab

/- Loops by an index; conditions read off the state. -/
namespace Go.Proofs.Ytpcjhnbifgjleaa.Ab
set_option linter.unusedSectionVars false
set_option linter.unusedSimpArgs false
set_option linter.constructorNameAsVariable false
open Go.RowKit
set_option linter.unusedVariables false
set_option maxRecDepth 100000

def asB : S → Option Bool
  | .d (.v (.bool b)) => some b
  | _ => none
/-- A branch, its condition read off the state. -/
theorem Ab.cond' {P : Program} {c : Operand} {x y : Code} {Q : Exit → St → Prop} {s : St} (h : @Opt Bool (asB (s.ev c)) ⟨fun b => (b = true → Ab P x Q s) ∧ (b = false → Ab P y Q s)⟩) : Ab P (.cond c x y) Q s := by
  obtain ⟨b, hb, h1, h2⟩ := h
  refine Ab.cond (b := b) ?_ h1 h2
  revert hb
  generalize s.ev c = v
  intro hb
  unfold asB at hb
  split at hb
  · injection hb with hb; subst hb; rfl
  · cases hb
/-- A state by what it holds: its live slots, its live memory. -/
def mkS (n : Nat) (L : List (Nat × S)) (M : List (Nat × B)) (nx : Nat) : St := ⟨n, updl (fun _ => .u) L, updl (fun _ => .none) M, nx⟩
def allT (s : St) (m : Nat → B) : List (Nat × S) → Prop
  | [] => True
  | p :: l => (LeS (s.t p.1) p.2 ∧ p.2.wf m) ∧ allT s m l
def allM (s : St) (m : Nat → B) : List (Nat × B) → Prop
  | [] => True
  | p :: l => (LeB (s.m p.1) p.2 ∧ wfB m p.2) ∧ allM s m l
theorem allT_ok {s : St} {m : Nat → B} : ∀ {L : List (Nat × S)}, allT s m L → LeT s (updl (fun _ => .u) L) m
  | [], _ => LeT.base s m
  | p :: l, h => LeT.upd h.1.1 h.1.2 (allT_ok h.2)
theorem allM_ok {s : St} {M : Nat → B} : ∀ {L : List (Nat × B)}, allM s M L → LeM s (updl (fun _ => .none) L) M
  | [], _ => LeM.base s M
  | p :: l, h => LeM.upd h.1.1 h.1.2 (allM_ok h.2)
theorem Le.mk {s : St} {n : Nat} {L : List (Nat × S)} {M : List (Nat × B)} {nx : Nat} (hn : n = s.n) (ht : allT s (updl (fun _ => .none) M) L) (hm : allM s (updl (fun _ => .none) M) M) : Le s (mkS n L M nx) :=
  Le.of hn (allT_ok ht) (allM_ok hm)
theorem LeS_refl (x : S) : LeS x x = True := eq_true (.inr (.inl rfl))
theorem LeS_u (x : S) : LeS x .u = True := eq_true (.inl rfl)
theorem LeS.eq {x y : S} (h : x = y) : LeS x y := .inr (.inl h.symm)
theorem LeS.g (id : Nat) (es : List (List D)) : LeS (.g id es) (.d (.sl es)) = True := eq_true (.inr (.inr ⟨_, rfl, rfl⟩))
theorem LeS.v {x y : Value} (h : x = y) : LeS (.d (.v x)) (.d (.v y)) := by rw [h]; exact .inr (.inl rfl)
theorem LeB_none (x : B) : LeB x .none = True := eq_true (by cases x <;> trivial)
theorem LeB_dead (x : B) : LeB x .dead = True := eq_true (by cases x <;> trivial)
theorem LeB_box (l l' : List S) : LeB (.box l) (.box l') = LeSs l l' := rfl
theorem LeB_tip (d d' : Bool) (e e' : TypeId) (n n' : Nat) (es es' : List (List D)) : LeB (.tip d e n es) (.tip d' e' n' es') = ((d' = true → d = true) ∧ e' = e ∧ n' = n ∧ es' = es) := rfl
theorem LeB_arr (d d' : Bool) (e e' : TypeId) (n n' : Nat) (es es' : List (List D)) : LeB (.arr d e n es) (.arr d' e' n' es') = ((d' = true → d = true) ∧ e' = e ∧ n' = n ∧ es' = es) := rfl
theorem LeB_tok (x y : D) : LeB (.tok x) (.tok y) = (y = x) := rfl
theorem LeSs_nil : LeSs [] [] = True := rfl
theorem LeSs_cons (x y : S) (l l' : List S) : LeSs (x :: l) (y :: l') = (LeS x y ∧ LeSs l l') := rfl
theorem LeB_frm (x y : List Nat) : LeB (.frm x) (.frm y) = (y = x) := rfl
theorem wfB_frm (M : Nat → B) (l : List Nat) : wfB M (.frm l) = wfI M l := rfl
theorem wfI_nil (M : Nat → B) : wfI M [] = True := rfl
theorem wfI_cons (M : Nat → B) (i : Nat) (l : List Nat) : wfI M (i :: l) = (M i ≠ .none ∧ wfI M l) := rfl
theorem frL : ((type_of% @LeB_frm) ∧ (type_of% @wfB_frm)) ∧ ((type_of% @wfI_nil) ∧ (type_of% @wfI_cons)) := ⟨⟨@LeB_frm, @wfB_frm⟩, ⟨@wfI_nil, @wfI_cons⟩⟩
theorem wfB_box (M : Nat → B) (l : List S) : wfB M (.box l) = S.wfs M l := rfl
theorem wfB_tip (M : Nat → B) (d : Bool) (e : TypeId) (n : Nat) (es : List (List D)) : wfB M (.tip d e n es) = True := rfl
theorem wfB_arr (M : Nat → B) (d : Bool) (e : TypeId) (n : Nat) (es : List (List D)) : wfB M (.arr d e n es) = True := rfl
theorem wfB_tok (M : Nat → B) (x : D) : wfB M (.tok x) = True := rfl
theorem wfB_none (M : Nat → B) : wfB M .none = True := rfl
theorem wfB_dead (M : Nat → B) : wfB M .dead = True := rfl
/-- A state says less than another one, which is looked at later. -/
def LeTo (s : St) [k : Kept St] : Prop := Le s k.it
theorem LeTo.mk {s : St} {n : Nat} {L : List (Nat × S)} {M : List (Nat × B)} {nx : Nat} (hn : n = s.n) (ht : allT s (updl (fun _ => .none) M) L) (hm : allM s (updl (fun _ => .none) M) M) : @LeTo s ⟨mkS n L M nx⟩ := Le.mk hn ht hm
theorem LeS_of {x y : D} (hx : (S.d x).toD = some x) : LeS (.d x) (.d y) = (x = y) := by
  refine propext ⟨?_, fun h => by rw [h]; exact .inr (.inl rfl)⟩
  rintro (h | h | ⟨d, h1, h2⟩)
  · cases h
  · injection h with h; exact h.symm
  · injection h1 with h1
    subst h1
    rw [hx] at h2
    injection h2
theorem LeS_o (id : Nat) (x y : D) : LeS (.o id x) (.d y) = (x = y) := by
  refine propext ⟨?_, fun h => by rw [h]; exact .inr (.inr ⟨_, rfl, rfl⟩)⟩
  rintro (h | h | ⟨d, h1, h2⟩)
  · cases h
  · cases h
  · injection h1 with h1
    subst h1
    injection h2
theorem LeS_sl (x : List (List D)) (y : D) : LeS (.d (.sl x)) (.d y) = (D.sl x = y) := LeS_of rfl
theorem LeS_int (k : IntKind) (x : Int) (y : D) : LeS (.d (.v (.int k x))) (.d y) = (D.v (.int k x) = y) := LeS_of rfl
theorem LeS_bool (x : Bool) (y : D) : LeS (.d (.v (.bool x))) (.d y) = (D.v (.bool x) = y) := LeS_of rfl
theorem LeS_str (x : ByteArray) (y : D) : LeS (.d (.v (.string x))) (.d y) = (D.v (.string x) = y) := LeS_of rfl
theorem LeS_nil : LeS (.d (.v (.slice none 0 0))) (.d (.sl [])) = True := eq_true (.inr (.inr ⟨_, rfl, rfl⟩))
theorem D_v (x y : Value) : (D.v x = D.v y) = (x = y) := by simp
theorem D_sl (x y : List (List D)) : (D.sl x = D.sl y) = (x = y) := by simp
theorem V_int (k : IntKind) (x y : Int) : (Value.int k x = Value.int k y) = (x = y) := by simp
theorem V_bool (x y : Bool) : (Value.bool x = Value.bool y) = (x = y) := by simp
theorem V_str (x y : ByteArray) : (Value.string x = Value.string y) = (x = y) := by simp
theorem natZ : ((0 : Nat) : Int) = 0 := rfl
/-- What the reckoning rewrites with, in one. -/
theorem evL : ((((((type_of% @Option.map_some.{0, 0}) ∧ ((type_of% @Option.map_none.{0, 0}) ∧ (type_of% @List.map_cons.{0, 0}))) ∧ ((type_of% @List.map_nil.{0, 0}) ∧ ((type_of% @List.take_succ_cons.{0}) ∧ (type_of% @List.take_zero.{0})))) ∧ (((type_of% @List.drop_succ_cons.{0}) ∧ ((type_of% @List.drop_zero.{0}) ∧ (type_of% @List.append_nil.{0}))) ∧ (((type_of% @List.nil_append.{0}) ∧ (type_of% @List.cons_append.{0})) ∧ ((type_of% @List.replicate_succ.{0}) ∧ (type_of% @List.replicate_zero.{0}))))) ∧ ((((type_of% @List.getElem?_cons_zero.{0}) ∧ ((type_of% @List.getElem?_cons_succ.{0}) ∧ (type_of% @List.length_cons.{0}))) ∧ (((type_of% @List.length_nil.{0}) ∧ (type_of% @List.mem_cons.{0})) ∧ ((type_of% @List.not_mem_nil.{0}) ∧ (type_of% @List.nodup_nil.{0})))) ∧ (((type_of% @Bool.and_self) ∧ ((type_of% @Bool.and_true) ∧ (type_of% @Bool.true_and))) ∧ (((type_of% @Bool.and_false) ∧ (type_of% @Bool.false_and)) ∧ ((type_of% @decide_true) ∧ (type_of% @decide_false)))))) ∧ (((((type_of% @false_implies) ∧ ((type_of% @and_true) ∧ (type_of% @true_and))) ∧ (((type_of% @and_self) ∧ (type_of% @or_true)) ∧ ((type_of% @true_or) ∧ (type_of% @or_false)))) ∧ (((type_of% @false_or) ∧ ((type_of% @not_false_eq_true) ∧ (type_of% @not_true_eq_false))) ∧ (((type_of% @imp_self) ∧ (type_of% @Option.some.injEq.{0})) ∧ ((type_of% @beq_self_eq_true.{0}) ∧ (type_of% @Int.natCast_nonneg))))) ∧ ((((type_of% @Int.toNat_natCast) ∧ ((type_of% @List.length_map.{0, 0}) ∧ (type_of% @List.getElem?_toArray.{0}))) ∧ (((type_of% @Option.bind_some.{0, 0}) ∧ (type_of% @Option.bind_none.{0, 0})) ∧ ((type_of% @Option.some_beq_some.{0}) ∧ (type_of% @Option.some_beq_none.{0})))) ∧ (((type_of% @beq_true) ∧ ((type_of% @beq_false) ∧ (type_of% @Bool.not_true))) ∧ (((type_of% @Bool.not_false) ∧ (type_of% @Bool.not_not)) ∧ ((type_of% @Option.none_beq_some.{0}) ∧ (type_of% @Option.none_beq_none.{0}))))))) :=
  ⟨⟨⟨⟨⟨@Option.map_some.{0, 0}, ⟨@Option.map_none.{0, 0}, @List.map_cons.{0, 0}⟩⟩, ⟨@List.map_nil.{0, 0}, ⟨@List.take_succ_cons.{0}, @List.take_zero.{0}⟩⟩⟩, ⟨⟨@List.drop_succ_cons.{0}, ⟨@List.drop_zero.{0}, @List.append_nil.{0}⟩⟩, ⟨⟨@List.nil_append.{0}, @List.cons_append.{0}⟩, ⟨@List.replicate_succ.{0}, @List.replicate_zero.{0}⟩⟩⟩⟩, ⟨⟨⟨@List.getElem?_cons_zero.{0}, ⟨@List.getElem?_cons_succ.{0}, @List.length_cons.{0}⟩⟩, ⟨⟨@List.length_nil.{0}, @List.mem_cons.{0}⟩, ⟨@List.not_mem_nil.{0}, @List.nodup_nil.{0}⟩⟩⟩, ⟨⟨@Bool.and_self, ⟨@Bool.and_true, @Bool.true_and⟩⟩, ⟨⟨@Bool.and_false, @Bool.false_and⟩, ⟨@decide_true, @decide_false⟩⟩⟩⟩⟩, ⟨⟨⟨⟨@false_implies, ⟨@and_true, @true_and⟩⟩, ⟨⟨@and_self, @or_true⟩, ⟨@true_or, @or_false⟩⟩⟩, ⟨⟨@false_or, ⟨@not_false_eq_true, @not_true_eq_false⟩⟩, ⟨⟨@imp_self, @Option.some.injEq.{0}⟩, ⟨@beq_self_eq_true.{0}, @Int.natCast_nonneg⟩⟩⟩⟩, ⟨⟨⟨@Int.toNat_natCast, ⟨@List.length_map.{0, 0}, @List.getElem?_toArray.{0}⟩⟩, ⟨⟨@Option.bind_some.{0, 0}, @Option.bind_none.{0, 0}⟩, ⟨@Option.some_beq_some.{0}, @Option.some_beq_none.{0}⟩⟩⟩, ⟨⟨@beq_true, ⟨@beq_false, @Bool.not_true⟩⟩, ⟨⟨@Bool.not_false, @Bool.not_not⟩, ⟨@Option.none_beq_some.{0}, @Option.none_beq_none.{0}⟩⟩⟩⟩⟩⟩
theorem evD : ((((((((type_of% @evOps.eq_1) ∧ (type_of% @evOps.eq_2)) ∧ ((type_of% @constS.eq_1) ∧ (type_of% @constS.eq_2))) ∧ (((type_of% @cell1.eq_1) ∧ (type_of% @cell1.eq_2)) ∧ ((type_of% @cell1.eq_3) ∧ ((type_of% @cell1.eq_4) ∧ (type_of% @St.ev.eq_1))))) ∧ ((((type_of% @St.ev.eq_2) ∧ (type_of% @St.ev.eq_3)) ∧ ((type_of% @St.ev.eq_4) ∧ ((type_of% @initT.eq_1) ∧ (type_of% @initT.eq_2)))) ∧ (((type_of% @St.put.eq_1) ∧ (type_of% @St.put.eq_2)) ∧ ((type_of% @upds.eq_1) ∧ ((type_of% @upds.eq_2) ∧ (type_of% @S.asL.eq_1)))))) ∧ (((((type_of% @S.asL.eq_2) ∧ (type_of% @S.asL.eq_3)) ∧ ((type_of% @S.asL.eq_4) ∧ ((type_of% @S.asL.eq_5) ∧ (type_of% @S.toD.eq_1)))) ∧ (((type_of% @S.toD.eq_2) ∧ (type_of% @S.toD.eq_3)) ∧ ((type_of% @S.toD.eq_4) ∧ ((type_of% @S.toD.eq_5) ∧ (type_of% @S.toDm.eq_1))))) ∧ ((((type_of% @S.toDm.eq_2) ∧ (type_of% @toDs.eq_1)) ∧ ((type_of% @toDs.eq_2) ∧ ((type_of% @toDms.eq_1) ∧ (type_of% @toDms.eq_2)))) ∧ (((type_of% @S.cells?.eq_1) ∧ (type_of% @S.cells?.eq_2)) ∧ ((type_of% @S.cells?.eq_3) ∧ ((type_of% @S.cells?.eq_4) ∧ (type_of% @boundS.eq_1))))))) ∧ ((((((type_of% @boundS.eq_2) ∧ (type_of% @partsS.eq_1)) ∧ ((type_of% @partsS.eq_2) ∧ ((type_of% @fillS.eq_1) ∧ (type_of% @fillS.eq_2)))) ∧ (((type_of% @ownIds.eq_1) ∧ (type_of% @ownIds.eq_2)) ∧ ((type_of% @ownIds.eq_3) ∧ ((type_of% @ownIds.eq_4) ∧ (type_of% @ownIds.eq_5))))) ∧ ((((type_of% @ownIds.eq_6) ∧ (type_of% @sameD.eq_1)) ∧ ((type_of% @sameD.eq_2) ∧ ((type_of% @sameD.eq_3) ∧ (type_of% @sameD.eq_4)))) ∧ (((type_of% @Ab.cut.eq_1) ∧ (type_of% @Ab.cut.eq_2)) ∧ ((type_of% @S.argl.eq_1) ∧ ((type_of% @S.argl.eq_2) ∧ (type_of% @S.arg.eq_1)))))) ∧ (((((type_of% @S.arg.eq_2) ∧ (type_of% @S.arg.eq_3)) ∧ ((type_of% @S.arg.eq_4) ∧ ((type_of% @S.arg.eq_5) ∧ (type_of% @S.arg.eq_6)))) ∧ (((type_of% @S.arg.eq_7) ∧ (type_of% @S.arg.eq_8)) ∧ ((type_of% @S.arg.eq_9) ∧ ((type_of% @S.arg.eq_10) ∧ (type_of% @S.arg.eq_11))))) ∧ ((((type_of% @S.readsl.eq_1) ∧ (type_of% @S.readsl.eq_2)) ∧ ((type_of% @S.reads.eq_1) ∧ ((type_of% @S.reads.eq_2) ∧ (type_of% @S.reads.eq_3)))) ∧ (((type_of% @S.reads.eq_4) ∧ (type_of% @S.reads.eq_5)) ∧ ((type_of% @S.reads.eq_6) ∧ ((type_of% @S.shift.eq_1) ∧ (type_of% @S.shift.eq_2)))))))) ∧ (((((((type_of% @S.shift.eq_3) ∧ (type_of% @S.shift.eq_4)) ∧ ((type_of% @S.shiftl.eq_1) ∧ (type_of% @S.shiftl.eq_2))) ∧ (((type_of% @S.os.eq_1) ∧ (type_of% @S.os.eq_2)) ∧ ((type_of% @S.os.eq_3) ∧ ((type_of% @S.os.eq_4) ∧ (type_of% @S.oss.eq_1))))) ∧ ((((type_of% @S.oss.eq_2) ∧ (type_of% @S.solid.eq_1)) ∧ ((type_of% @S.solid.eq_2) ∧ ((type_of% @S.solid.eq_3) ∧ (type_of% @S.solid.eq_4)))) ∧ (((type_of% @S.solid.eq_5) ∧ (type_of% @S.solid.eq_6)) ∧ ((type_of% @S.solids.eq_1) ∧ ((type_of% @S.solids.eq_2) ∧ (type_of% @resS.eq_1)))))) ∧ (((((type_of% @resS.eq_2) ∧ (type_of% @resL.eq_1)) ∧ ((type_of% @resL.eq_2) ∧ ((type_of% @oneOf.eq_1) ∧ (type_of% @oneOf.eq_2)))) ∧ (((type_of% @finOk.eq_1) ∧ (type_of% @finOk.eq_2)) ∧ ((type_of% @finOk.eq_3) ∧ ((type_of% @finOk.eq_4) ∧ (type_of% @finOk.eq_5))))) ∧ ((((type_of% @finOk.eq_6) ∧ (type_of% @finOk.eq_7)) ∧ ((type_of% @finOk.eq_8) ∧ ((type_of% @finOk.eq_9) ∧ (type_of% @finOkl.eq_1)))) ∧ (((type_of% @finOkl.eq_2) ∧ (type_of% @finOkl.eq_3)) ∧ ((type_of% @finIds.eq_1) ∧ ((type_of% @finIds.eq_2) ∧ (type_of% @finIds.eq_3))))))) ∧ ((((((type_of% @finIds.eq_4) ∧ (type_of% @finIds.eq_5)) ∧ ((type_of% @finIds.eq_6) ∧ ((type_of% @finIdl.eq_1) ∧ (type_of% @finIdl.eq_2)))) ∧ (((type_of% @Ends.eq_1) ∧ (type_of% @Ends.eq_2)) ∧ ((type_of% @Ends.eq_3) ∧ ((type_of% @thenS.eq_1) ∧ (type_of% @thenS.eq_2))))) ∧ ((((type_of% @inBlockS.eq_1) ∧ (type_of% @inBlockS.eq_2)) ∧ ((type_of% @St.step.eq_1) ∧ ((type_of% @St.step.eq_2) ∧ (type_of% @binV.eq_1)))) ∧ (((type_of% @binV.eq_2) ∧ (type_of% @binV.eq_3)) ∧ ((type_of% @binV.eq_4) ∧ ((type_of% @binV.eq_5) ∧ (type_of% @binV.eq_6)))))) ∧ (((((type_of% @binV.eq_7) ∧ (type_of% @binV.eq_8)) ∧ ((type_of% @binV.eq_9) ∧ ((type_of% @binV.eq_10) ∧ (type_of% @binV.eq_11)))) ∧ (((type_of% @binV.eq_12) ∧ (type_of% @binV.eq_13)) ∧ ((type_of% @binV.eq_14) ∧ ((type_of% @binV.eq_15) ∧ (type_of% @binV.eq_16))))) ∧ ((((type_of% @binV.eq_17) ∧ (type_of% @binV.eq_18)) ∧ ((type_of% @binV.eq_19) ∧ ((type_of% @binV.eq_20) ∧ (type_of% @binV.eq_21)))) ∧ (((type_of% @binV.eq_22) ∧ (type_of% @binV.eq_23)) ∧ ((type_of% @binV.eq_24) ∧ ((type_of% @binV.eq_25) ∧ (type_of% @binV.eq_26))))))))) :=
  ⟨⟨⟨⟨⟨⟨⟨@evOps.eq_1, @evOps.eq_2⟩, ⟨@constS.eq_1, @constS.eq_2⟩⟩, ⟨⟨@cell1.eq_1, @cell1.eq_2⟩, ⟨@cell1.eq_3, ⟨@cell1.eq_4, @St.ev.eq_1⟩⟩⟩⟩, ⟨⟨⟨@St.ev.eq_2, @St.ev.eq_3⟩, ⟨@St.ev.eq_4, ⟨@initT.eq_1, @initT.eq_2⟩⟩⟩, ⟨⟨@St.put.eq_1, @St.put.eq_2⟩, ⟨@upds.eq_1, ⟨@upds.eq_2, @S.asL.eq_1⟩⟩⟩⟩⟩, ⟨⟨⟨⟨@S.asL.eq_2, @S.asL.eq_3⟩, ⟨@S.asL.eq_4, ⟨@S.asL.eq_5, @S.toD.eq_1⟩⟩⟩, ⟨⟨@S.toD.eq_2, @S.toD.eq_3⟩, ⟨@S.toD.eq_4, ⟨@S.toD.eq_5, @S.toDm.eq_1⟩⟩⟩⟩, ⟨⟨⟨@S.toDm.eq_2, @toDs.eq_1⟩, ⟨@toDs.eq_2, ⟨@toDms.eq_1, @toDms.eq_2⟩⟩⟩, ⟨⟨@S.cells?.eq_1, @S.cells?.eq_2⟩, ⟨@S.cells?.eq_3, ⟨@S.cells?.eq_4, @boundS.eq_1⟩⟩⟩⟩⟩⟩, ⟨⟨⟨⟨⟨@boundS.eq_2, @partsS.eq_1⟩, ⟨@partsS.eq_2, ⟨@fillS.eq_1, @fillS.eq_2⟩⟩⟩, ⟨⟨@ownIds.eq_1, @ownIds.eq_2⟩, ⟨@ownIds.eq_3, ⟨@ownIds.eq_4, @ownIds.eq_5⟩⟩⟩⟩, ⟨⟨⟨@ownIds.eq_6, @sameD.eq_1⟩, ⟨@sameD.eq_2, ⟨@sameD.eq_3, @sameD.eq_4⟩⟩⟩, ⟨⟨@Ab.cut.eq_1, @Ab.cut.eq_2⟩, ⟨@S.argl.eq_1, ⟨@S.argl.eq_2, @S.arg.eq_1⟩⟩⟩⟩⟩, ⟨⟨⟨⟨@S.arg.eq_2, @S.arg.eq_3⟩, ⟨@S.arg.eq_4, ⟨@S.arg.eq_5, @S.arg.eq_6⟩⟩⟩, ⟨⟨@S.arg.eq_7, @S.arg.eq_8⟩, ⟨@S.arg.eq_9, ⟨@S.arg.eq_10, @S.arg.eq_11⟩⟩⟩⟩, ⟨⟨⟨@S.readsl.eq_1, @S.readsl.eq_2⟩, ⟨@S.reads.eq_1, ⟨@S.reads.eq_2, @S.reads.eq_3⟩⟩⟩, ⟨⟨@S.reads.eq_4, @S.reads.eq_5⟩, ⟨@S.reads.eq_6, ⟨@S.shift.eq_1, @S.shift.eq_2⟩⟩⟩⟩⟩⟩⟩, ⟨⟨⟨⟨⟨⟨@S.shift.eq_3, @S.shift.eq_4⟩, ⟨@S.shiftl.eq_1, @S.shiftl.eq_2⟩⟩, ⟨⟨@S.os.eq_1, @S.os.eq_2⟩, ⟨@S.os.eq_3, ⟨@S.os.eq_4, @S.oss.eq_1⟩⟩⟩⟩, ⟨⟨⟨@S.oss.eq_2, @S.solid.eq_1⟩, ⟨@S.solid.eq_2, ⟨@S.solid.eq_3, @S.solid.eq_4⟩⟩⟩, ⟨⟨@S.solid.eq_5, @S.solid.eq_6⟩, ⟨@S.solids.eq_1, ⟨@S.solids.eq_2, @resS.eq_1⟩⟩⟩⟩⟩, ⟨⟨⟨⟨@resS.eq_2, @resL.eq_1⟩, ⟨@resL.eq_2, ⟨@oneOf.eq_1, @oneOf.eq_2⟩⟩⟩, ⟨⟨@finOk.eq_1, @finOk.eq_2⟩, ⟨@finOk.eq_3, ⟨@finOk.eq_4, @finOk.eq_5⟩⟩⟩⟩, ⟨⟨⟨@finOk.eq_6, @finOk.eq_7⟩, ⟨@finOk.eq_8, ⟨@finOk.eq_9, @finOkl.eq_1⟩⟩⟩, ⟨⟨@finOkl.eq_2, @finOkl.eq_3⟩, ⟨@finIds.eq_1, ⟨@finIds.eq_2, @finIds.eq_3⟩⟩⟩⟩⟩⟩, ⟨⟨⟨⟨⟨@finIds.eq_4, @finIds.eq_5⟩, ⟨@finIds.eq_6, ⟨@finIdl.eq_1, @finIdl.eq_2⟩⟩⟩, ⟨⟨@Ends.eq_1, @Ends.eq_2⟩, ⟨@Ends.eq_3, ⟨@thenS.eq_1, @thenS.eq_2⟩⟩⟩⟩, ⟨⟨⟨@inBlockS.eq_1, @inBlockS.eq_2⟩, ⟨@St.step.eq_1, ⟨@St.step.eq_2, @binV.eq_1⟩⟩⟩, ⟨⟨@binV.eq_2, @binV.eq_3⟩, ⟨@binV.eq_4, ⟨@binV.eq_5, @binV.eq_6⟩⟩⟩⟩⟩, ⟨⟨⟨⟨@binV.eq_7, @binV.eq_8⟩, ⟨@binV.eq_9, ⟨@binV.eq_10, @binV.eq_11⟩⟩⟩, ⟨⟨@binV.eq_12, @binV.eq_13⟩, ⟨@binV.eq_14, ⟨@binV.eq_15, @binV.eq_16⟩⟩⟩⟩, ⟨⟨⟨@binV.eq_17, @binV.eq_18⟩, ⟨@binV.eq_19, ⟨@binV.eq_20, @binV.eq_21⟩⟩⟩, ⟨⟨@binV.eq_22, @binV.eq_23⟩, ⟨@binV.eq_24, ⟨@binV.eq_25, @binV.eq_26⟩⟩⟩⟩⟩⟩⟩⟩
theorem iteL : ((((type_of% @ite_true.{1}) ∧ ((type_of% @ite_false.{1}) ∧ (type_of% @if_true.{1}))) ∧ ((type_of% @if_false.{1}) ∧ ((type_of% @ite_true.{0}) ∧ (type_of% @ite_false.{0})))) ∧ (((type_of% @if_true.{0}) ∧ ((type_of% @if_false.{0}) ∧ (type_of% @forall_const.{0}))) ∧ ((type_of% @forall_const.{1}) ∧ ((type_of% @implies_true.{0}) ∧ (type_of% @implies_true.{1}))))) :=
  ⟨⟨⟨@ite_true.{1}, ⟨@ite_false.{1}, @if_true.{1}⟩⟩, ⟨@if_false.{1}, ⟨@ite_true.{0}, @ite_false.{0}⟩⟩⟩, ⟨⟨@if_true.{0}, ⟨@if_false.{0}, @forall_const.{0}⟩⟩, ⟨@forall_const.{1}, ⟨@implies_true.{0}, @implies_true.{1}⟩⟩⟩⟩
theorem osL : ((((type_of% @S.os.eq_1) ∧ ((type_of% @S.os.eq_2) ∧ (type_of% @S.os.eq_3))) ∧ (((type_of% @S.os.eq_4) ∧ (type_of% @S.oss.eq_1)) ∧ ((type_of% @S.oss.eq_2) ∧ (type_of% @S.solid.eq_1)))) ∧ (((type_of% @S.solid.eq_2) ∧ ((type_of% @S.solid.eq_3) ∧ (type_of% @S.solid.eq_4))) ∧ (((type_of% @S.solid.eq_5) ∧ (type_of% @S.solid.eq_6)) ∧ ((type_of% @S.solids.eq_1) ∧ (type_of% @S.solids.eq_2))))) :=
  ⟨⟨⟨@S.os.eq_1, ⟨@S.os.eq_2, @S.os.eq_3⟩⟩, ⟨⟨@S.os.eq_4, @S.oss.eq_1⟩, ⟨@S.oss.eq_2, @S.solid.eq_1⟩⟩⟩, ⟨⟨@S.solid.eq_2, ⟨@S.solid.eq_3, @S.solid.eq_4⟩⟩, ⟨⟨@S.solid.eq_5, @S.solid.eq_6⟩, ⟨@S.solids.eq_1, @S.solids.eq_2⟩⟩⟩⟩
theorem leD : (((((type_of% @mkS.eq_1) ∧ (type_of% @updl.eq_1)) ∧ ((type_of% @updl.eq_2) ∧ ((type_of% @allT.eq_1) ∧ (type_of% @allT.eq_2)))) ∧ (((type_of% @allM.eq_1) ∧ (type_of% @allM.eq_2)) ∧ ((type_of% @S.wf.eq_1) ∧ ((type_of% @S.wf.eq_2) ∧ (type_of% @S.wf.eq_3))))) ∧ ((((type_of% @S.wf.eq_4) ∧ (type_of% @S.wf.eq_5)) ∧ ((type_of% @S.wf.eq_6) ∧ ((type_of% @S.wf.eq_7) ∧ (type_of% @S.wf.eq_8)))) ∧ (((type_of% @S.wf.eq_9) ∧ (type_of% @S.wf.eq_10)) ∧ ((type_of% @S.wf.eq_11) ∧ ((type_of% @S.wfs.eq_1) ∧ (type_of% @S.wfs.eq_2)))))) :=
  ⟨⟨⟨⟨@mkS.eq_1, @updl.eq_1⟩, ⟨@updl.eq_2, ⟨@allT.eq_1, @allT.eq_2⟩⟩⟩, ⟨⟨@allM.eq_1, @allM.eq_2⟩, ⟨@S.wf.eq_1, ⟨@S.wf.eq_2, @S.wf.eq_3⟩⟩⟩⟩, ⟨⟨⟨@S.wf.eq_4, @S.wf.eq_5⟩, ⟨@S.wf.eq_6, ⟨@S.wf.eq_7, @S.wf.eq_8⟩⟩⟩, ⟨⟨@S.wf.eq_9, @S.wf.eq_10⟩, ⟨@S.wf.eq_11, ⟨@S.wfs.eq_1, @S.wfs.eq_2⟩⟩⟩⟩⟩
theorem aq : type_of% @Ab.seq := @Ab.seq
theorem ak : type_of% @Ab.skip := @Ab.skip
theorem ab : type_of% @Ab.block := @Ab.block
theorem al : type_of% @Ab.label := @Ab.label
theorem ar : type_of% @Ab.region' := @Ab.region'
theorem ad : type_of% @Ab.regionD' := @Ab.regionD'
theorem ac : type_of% @Ab.cond' := @Ab.cond'
theorem ae : type_of% @Ab.exit := @Ab.exit
theorem ap {p q : Prop} (h : p) (k : q) : p ∧ q := ⟨h, k⟩
theorem leL : (((((type_of% @LeS_refl) ∧ ((type_of% @LeS_u) ∧ (type_of% @LeS.g))) ∧ (((type_of% @LeS_sl) ∧ (type_of% @LeS_o)) ∧ ((type_of% @LeS_int) ∧ (type_of% @LeS_bool)))) ∧ (((type_of% @LeS_str) ∧ ((type_of% @LeS_nil) ∧ (type_of% @D_v))) ∧ (((type_of% @D_sl) ∧ (type_of% @V_int)) ∧ ((type_of% @V_bool) ∧ (type_of% @V_str))))) ∧ ((((type_of% @natZ) ∧ ((type_of% @LeB_none) ∧ (type_of% @LeB_dead))) ∧ (((type_of% @LeB_box) ∧ (type_of% @LeB_tip)) ∧ ((type_of% @LeB_arr) ∧ (type_of% @LeB_tok)))) ∧ ((((type_of% @LeSs_nil) ∧ (type_of% @LeSs_cons)) ∧ ((type_of% @wfB_box) ∧ (type_of% @wfB_tip))) ∧ (((type_of% @wfB_arr) ∧ (type_of% @wfB_tok)) ∧ ((type_of% @wfB_none) ∧ (type_of% @wfB_dead)))))) :=
  ⟨⟨⟨⟨@LeS_refl, ⟨@LeS_u, @LeS.g⟩⟩, ⟨⟨@LeS_sl, @LeS_o⟩, ⟨@LeS_int, @LeS_bool⟩⟩⟩, ⟨⟨@LeS_str, ⟨@LeS_nil, @D_v⟩⟩, ⟨⟨@D_sl, @V_int⟩, ⟨@V_bool, @V_str⟩⟩⟩⟩, ⟨⟨⟨@natZ, ⟨@LeB_none, @LeB_dead⟩⟩, ⟨⟨@LeB_box, @LeB_tip⟩, ⟨@LeB_arr, @LeB_tok⟩⟩⟩, ⟨⟨⟨@LeSs_nil, @LeSs_cons⟩, ⟨@wfB_box, @wfB_tip⟩⟩, ⟨⟨@wfB_arr, @wfB_tok⟩, ⟨@wfB_none, @wfB_dead⟩⟩⟩⟩⟩
/-- A loop by any measure. -/
theorem Ab.loopG {σ : Type} {P : Program} {c : Code} {Q : Exit → St → Prop} {s : St} (x0 : σ) (μ : σ → Nat) (I : σ → Prop) (st : σ → St) (h0 : I x0) (hl : Le s (st x0))
    (hr : ∀ x, I x → Ab P c (thenS (fun s' => ∃ y, μ y < μ x ∧ I y ∧ @LeTo s' ⟨st y⟩) Q) (st x)) : Ab P (.loop c) Q s := by
  refine Ab.loopW (fun k s => ∃ x, I x ∧ k = μ x ∧ s = st x) ⟨_, _, hl, x0, h0, rfl, rfl⟩ ?_
  rintro k s ⟨x, hx, rfl, rfl⟩
  refine Ab.mono (hr x hx) (fun e s' h => ?_)
  cases e <;> first | exact h | (obtain ⟨y, h1, h2, h3⟩ := h; exact ⟨_, _, h1, h3, y, h2, rfl, rfl⟩)
/-- A loop by an index from 0 to len. -/
theorem Ab.loopI {P : Program} {c : Code} {Q : Exit → St → Prop} {s : St} (len : Nat) (I : Nat → Prop) (st : Nat → St) (h0 : I 0) (hl : Le s (st 0))
    (hr : ∀ i, i ≤ len → I i → Ab P c (thenS (fun s' => i < len ∧ I (i + 1) ∧ @LeTo s' ⟨st (i + 1)⟩) Q) (st i)) : Ab P (.loop c) Q s := by
  refine Ab.loopG 0 (fun i => len - i) (fun i => i ≤ len ∧ I i) st ⟨Nat.zero_le _, h0⟩ hl (fun i ⟨hi, h⟩ => ?_)
  refine Ab.mono (hr i hi h) (fun e s' h => ?_)
  cases e <;> first | exact h | (obtain ⟨h1, h2, h3⟩ := h; exact ⟨i + 1, by omega, ⟨by omega, h2⟩, h3⟩)
end Go.Proofs.Ytpcjhnbifgjleaa.Ab

/- A function's contract that writes, from its body. -/
namespace Go.Proofs.Ytpcjhnbifgjleaa.Ab
set_option linter.unusedSectionVars false
set_option linter.unusedSimpArgs false
set_option linter.constructorNameAsVariable false
open Go.RowKit
set_option linter.unusedVariables false
set_option maxRecDepth 100000
/-- The state in which such a call begins. -/
def St.initW (n : Nat) (args : List S) (ids : List Nat) (M : List (Nat × B)) (nx : Nat) : St := { n := n, t := initT 0 args, m := upd (fM ids M) 11 .dead, nx := nx }
/-- An answer that says less. -/
def LeR : S → S → Prop
  | .t l, .t l' => LeSs l l'
  | .a l, .a l' => LeSs l l'
  | x, y => LeS x y
theorem LeR.rd {w : World} {G : Gh} {x y : S} {c : Value} (h : LeR x y) (hr : RdS w G x c) : RdS w G y c := by
  unfold LeR at h
  split at h
  · simp only [RdS] at hr ⊢
    obtain ⟨cs, h1, h2⟩ := hr
    exact ⟨cs, h1, LeSs.rd h h2⟩
  · simp only [RdS] at hr ⊢
    obtain ⟨cs, h1, h2, h3⟩ := hr
    exact ⟨cs, h1, LeSs.rd h h2, h3⟩
  · exact h.rd hr
/-- At the end of a function that writes. -/
def FinW (P : Program) (rs : List ResultVar) (V : S) (ids : List Nat) (M' : List (Nat × B)) (s : St) : Prop :=
  match resL P s rs with
  | some xs => LeR (oneOf xs) V ∧ allM s (fM ids M') ((9, .frm ids) :: M')
  | none => False
def EndsW (P : Program) (rs : List ResultVar) (V : S) (ids : List Nat) (M' : List (Nat × B)) : Exit → St → Prop
  | .normal, s => FinW P rs V ids M' s
  | .ret, s => FinW P rs V ids M' s
  | _, _ => False
theorem InvM.weaken {w0 : Base} {w : World} {G : Gh} {m m' : Nat → B} (hi : InvM w0 w G m) (hm : ∀ i, LeB (m i) (m' i) ∧ wfB m' (m' i)) : InvM w0 w G m' := by
  refine ⟨hi.below, hi.kold, hi.kin, fun id => ?_, fun i j hij hl hl' => ?_⟩
  · have h1 := hm id
    have h2 := hi.mem id
    generalize hx : m id = x at h1 h2
    generalize hy : m' id = y at h1 ⊢
    cases x <;> cases y <;> simp only [LeB] at h1 <;> first | trivial | exact h1.1.elim | skip
    case box.box l l' =>
      simp only [InvB] at h2 ⊢
      obtain ⟨a1, a2, a3, a4, cs, e, a5, a6, a7⟩ := h2
      exact ⟨a1, a2, a3, h1.2, cs, e, a5, h1.1.rd a6, a7⟩
    case tip.tip =>
      obtain ⟨⟨hd, rfl, rfl, rfl⟩, _⟩ := h1
      simp only [InvB] at h2 ⊢
      obtain ⟨a1, a2, xs, F', a3, a4, a5, a6, a7, a8⟩ := h2
      exact ⟨a1, a2, xs, F', a3, a4, a5, a6, a7, fun h => a8 (hd h)⟩
    case tok.tok =>
      obtain ⟨rfl, _⟩ := h1
      exact h2
    case frm.frm =>
      obtain ⟨rfl, h3⟩ := h1
      simp only [InvB] at h2 ⊢
      obtain ⟨a1, a2, a3, a4, a5⟩ := h2
      exact ⟨a1, a2, a3, a4, fun i hi => ⟨wfI_at h3 i hi, (a5 i hi).2⟩⟩
    case arr.arr =>
      obtain ⟨⟨hd, rfl, rfl, rfl⟩, _⟩ := h1
      simp only [InvB] at h2 ⊢
      obtain ⟨a1, xs, F', cap, a2, a3, a4, a5, a6, a7, a8, a9⟩ := h2
      exact ⟨a1, xs, F', cap, a2, a3, a4, a5, a6, a7, a8, fun h => a9 (hd h)⟩
  · have live : ∀ i, (m' i).live → (m i).live := fun i h => by
      have h1 := (hm i).1
      generalize m i = x at h1
      generalize m' i = y at h1 h
      cases x <;> cases y <;> simp only [LeB] at h1 <;> first | trivial | exact h.elim
    exact hi.disj i j hij (live i hl) (live j hl')
theorem InvM.wide {w0 : Base} {w : World} {G : Gh} {m : Nat → B} (hi : InvM w0 w G m) : InvM w0 w G (upd m 11 .dead) := by
  have hm : ∀ id, m id ≠ .none → upd m 11 .dead id ≠ .none := fun id h => by
    by_cases e : id = 11
    · subst e; rw [upd_same]; exact fun h => by cases h
    · rw [upd_ne _ _ _ e]; exact h
  refine ⟨hi.below, hi.kold, hi.kin, fun id => ?_, fun i j hij hl hl' => ?_⟩
  · by_cases e : id = 11
    · subst e; rw [upd_same]; trivial
    · rw [upd_ne _ _ _ e]; exact (hi.mem id).wide hm
  · have live : ∀ i, (upd m 11 .dead i).live → (m i).live := fun i h => by
      by_cases e : i = 11
      · subst e; rw [upd_same] at h; exact h.elim
      · rw [upd_ne _ _ _ e] at h; exact h
    exact hi.disj i j hij (live i hl) (live j hl')
theorem wfM_fM {ids : List Nat} {M : List (Nat × B)} (h9 : 9 ∉ keysM M) : ∀ i, updl (fun _ => B.none) M i ≠ .none → fM ids M i ≠ .none := fun i h => by
  by_cases e : i = 9
  · subst e; exact fun h => by simp [fM, upd_same] at h
  · show upd _ _ _ i ≠ _; rw [upd_ne _ _ _ e]; exact h
theorem finW_leaves {P : Program} {w0 : Base} {w : World} {G : Gh} {s : St} {a : Act} {ids : List Nat} {M' : List (Nat × B)} (hi : Inv w0 s a w G) {fn : Func} {V : S} (hf : FinW P fn.results.toList V ids M' s) (hn : 9 ∉ keysM M') :
    ∃ v, (results fn a.tmps).run P w = .ok v w ∧ RdS w G V v ∧ InvM w0 w G (fM ids M') := by
  unfold FinW at hf
  split at hf
  · rename_i xs hxs
    obtain ⟨vs, h1, h2⟩ := resL_run hi hxs
    have h3 := oneOf_rd h2
    refine ⟨_, ?_, hf.1.rd h3, hi.toM.weaken ?_⟩
    · rw [results_eq, Sem.run_bind, Array.mapM_eq_mapM_toList]
      simp only [Sem.run_map, h1, Result.andThen_ok]
      rfl
    · have h4 := allM_ok hf.2
      intro i
      have h5 := h4 i
      have e : updl (fun _ => B.none) ((9, .frm ids) :: M') i = fM ids M' i := rfl
      rw [e] at h5
      exact h5
  · exact hf.elim
/-- A contract that writes, from the body. -/
theorem AW.intro {P : Program} {f : FuncId} {fn : Func} {c : Code} {args : List S} {M : List (Nat × B)} {V : S} {M' : List (Nat × B)} (nx : Nat) (hf : P.funcs[f]? = some fn) (hb : fn.body = some c) (hname : fn.name ≠ "runtime.NumGoroutine") (hst : StatW args M V M') (h9 : 9 ∉ keysM M ∧ 9 ∉ keysM M' ∧ 11 ∉ keysM M) (hl : args.length ≤ fn.ntmps)
    (h : Ab P c (EndsW P fn.results.toList V (keysM M) M') (St.initW fn.ntmps args (keysM M) M nx)) : AW P f args M V M' := by
  refine ⟨⟨fn, hf, by rw [hb]; rfl, hname⟩, hst, fun w0 w G cs hI hr => ?_⟩
  have hcl := hr.len
  have hI' := hI.wide
  have hwf : S.wfs (upd (fM (keysM M) M) 11 .dead) args := S.wfs.mono (m := updl (fun _ => B.none) M) (fun i h => by
    by_cases e : i = 11
    · subst e; rw [upd_same]; exact fun h => by cases h
    · rw [upd_ne _ _ _ e]; exact wfM_fM h9.1 i h) hst.w1
  have hi : Inv w0 (St.initW fn.ntmps args (keysM M) M nx) { tmps := cs.toArray ++ Array.replicate (fn.ntmps - cs.toArray.size) undef, defers := [] } w G := by
    refine ⟨hI'.below, rfl, by simp [St.initW]; omega, fun t ht => ?_, hI'.kold, hI'.kin, hI'.mem, hI'.disj⟩
    have := initT_rd args cs 0 t hr (by omega)
    refine ⟨?_, this.2 _ hwf⟩
    have e : (cs.toArray ++ Array.replicate (fn.ntmps - cs.toArray.size) undef).getD t undef = cs.getD (t - 0) undef := by
      simp only [Array.getD_eq_getD_getElem?, Nat.sub_zero, List.getD_eq_getElem?_getD, Array.getElem?_append]
      by_cases h : t < cs.length
      · simp [h]
      · have ht' : t < fn.ntmps := ht
        simp [h, List.getElem?_eq_none (Nat.le_of_not_lt h)]
        simp only [Array.getElem?_replicate]
        split <;> simp
    rw [e]
    exact this.1
  refine calls_of_wp hf hb (wp_mono (h w0 _ w _ hi) ?_)
  rintro e a' w' ⟨s', G', hq, hi'⟩
  cases e with
  | normal =>
    obtain ⟨v, h1, h2, h3⟩ := finW_leaves hi' hq h9.2.1
    exact ⟨hi'.defers, v, h1, v, G', rfl, h2, h3⟩
  | ret =>
    obtain ⟨v, h1, h2, h3⟩ := finW_leaves hi' hq h9.2.1
    exact ⟨hi'.defers, v, h1, v, G', rfl, h2, h3⟩
  | _ => exact hq.elim
/-- From here on calls may be taken by what they write. -/
theorem Le.flag {s : St} (h : s.m 11 = .none) : Le s { s with m := upd s.m 11 .dead } := fun w0 a w G hi => by
  have hI := hi.toM.wide
  have hm : ∀ id, s.m id ≠ .none → upd s.m 11 .dead id ≠ .none := fun id h => by
    by_cases e : id = 11
    · subst e; rw [upd_same]; exact fun h => by cases h
    · rw [upd_ne _ _ _ e]; exact h
  exact ⟨G, hI.below, hi.defers, hi.size, fun t ht => ⟨(hi.slots t ht).1, (hi.slots t ht).2.mono hm⟩, hI.kold, hI.kin, hI.mem, hI.disj⟩
end Go.Proofs.Ytpcjhnbifgjleaa.Ab

