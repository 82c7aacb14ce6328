/- Between readings by 'Cod' and pure data. -/
import Derived.Test.YtpcjhnbifgjleaaAbTwo
import Derived.Test.YtpcjhnbifgjleaaCodOne
namespace Go.Proofs.Ytpcjhnbifgjleaa.Ab
set_option linter.unusedSectionVars false
set_option linter.unusedSimpArgs false
set_option linter.constructorNameAsVariable false
open Go.RowKit Go.Proofs.Ytpcjhnbifgjleaa
set_option linter.unusedVariables false
set_option maxRecDepth 100000
set_option linter.unusedSectionVars false

theorem OwnC.split2 {w : World} : ∀ {ds ds' : List D} {F : List Nat} {cs : List Value}, OwnC w (ds ++ ds') F cs → ∃ F1 F2 c1 c2, F = F1 ++ F2 ∧ (∀ k, k ∈ F1 → k ∉ F2) ∧ cs = c1 ++ c2 ∧ OwnC w ds F1 c1 ∧ OwnC w ds' F2 c2
  | [], ds', F, cs, h => ⟨[], F, [], cs, rfl, by simp, rfl, ⟨rfl, rfl⟩, h⟩
  | d :: ds, ds', F, cs, h => by
    simp only [List.cons_append, OwnC] at h
    obtain ⟨F1, F2, c, c2, rfl, h1, rfl, h2, h3⟩ := h
    obtain ⟨F3, F4, c3, c4, rfl, h4, rfl, h5, h6⟩ := OwnC.split2 h3
    refine ⟨F1 ++ F3, F4, c :: c3, c4, by simp, fun k hk => ?_, rfl, ?_, h6⟩
    · rcases List.mem_append.1 hk with hk | hk
      · exact fun hk4 => h1 k hk (List.mem_append_right _ hk4)
      · exact h4 k hk
    · simp only [OwnC]
      exact ⟨F1, F3, c, c3, rfl, fun k hk hk3 => h1 k hk (List.mem_append_left _ hk3), rfl, h2, h5⟩
theorem OwnC.app2 {w : World} : ∀ {ds ds' : List D} {F F' : List Nat} {cs cs' : List Value}, OwnC w ds F cs → OwnC w ds' F' cs' → (∀ k, k ∈ F → k ∉ F') → OwnC w (ds ++ ds') (F ++ F') (cs ++ cs')
  | [], ds', F, F', cs, cs', h, h', _ => by
    simp only [OwnC] at h
    obtain ⟨rfl, rfl⟩ := h
    exact h'
  | d :: ds, ds', F, F', cs, cs', h, h', hd => by
    simp only [OwnC] at h
    obtain ⟨F1, F2, c, c2, rfl, h1, rfl, h2, h3⟩ := h
    simp only [List.cons_append, OwnC]
    refine ⟨F1, F2 ++ F', c, c2 ++ cs', by simp, fun k hk => ?_, rfl, h2, OwnC.app2 h3 h' (fun k hk => hd k (List.mem_append_right _ hk))⟩
    rw [List.mem_append, not_or]
    exact ⟨h1 k hk, hd k (List.mem_append_left _ hk)⟩
/-- A datum as a list of pure cells. -/
structure Enc {α : Type} (c : Cod α) where
  e : α → List D
  good : α → Prop
  len : ∀ x, (e x).length = c.n
  pos : 0 < c.n
  gd : ∀ {B w x cs}, c.ok B w x cs → good x
  fwd : ∀ {B w x cs} {K : Nat → Nat → Prop}, c.ok B w x cs → (∀ b o, b < B → K b o) → RdC w K (e x) cs
  rd : ∀ {B w x cs} {K : Nat → Nat → Prop}, RdC w K (e x) cs → good x → (∀ b o, K b o → b < B) → c.ok B w x cs
  back : ∀ {F w x cs}, OwnC w (e x) F cs → good x → ∃ F', c.own F' w x cs ∧ ∀ k, k ∈ F' → k ∈ F
  fwdO : ∀ {F w x cs}, c.own F w x cs → ∃ F', OwnC w (e x) F' cs ∧ ∀ k, k ∈ F' → k ∈ F
def eInt : Enc cInt where
  e x := [.v (.int .i64 x)]
  good := inR
  len _ := rfl
  pos := Nat.one_pos
  gd h := h.2
  fwd h _ := by obtain ⟨rfl, _⟩ := h; simp only [RdC, RdD]; exact ⟨_, _, rfl, ⟨rfl, rfl⟩, rfl⟩
  rd h g _ := by simp only [RdC, RdD] at h; obtain ⟨_, _, rfl, ⟨rfl, _⟩, rfl⟩ := h; exact ⟨rfl, g⟩
  back h g := by simp only [OwnC, OwnD] at h; obtain ⟨F1, F2, _, _, rfl, _, rfl, ⟨rfl, rfl, _⟩, rfl, rfl⟩ := h; exact ⟨[], ⟨⟨rfl, g⟩, rfl⟩, by simp⟩
  fwdO h := by obtain ⟨⟨rfl, _⟩, rfl⟩ := h; exact ⟨[], by simp only [OwnC, OwnD]; exact ⟨[], [], _, [], rfl, by simp, rfl, ⟨rfl, rfl, rfl⟩, rfl, rfl⟩, by simp⟩
def eBool : Enc cBool where
  e x := [.v (.bool x)]
  good _ := True
  len _ := rfl
  pos := Nat.one_pos
  gd h := trivial
  fwd h _ := by cases h; simp only [RdC, RdD]; exact ⟨_, _, rfl, ⟨rfl, rfl⟩, rfl⟩
  rd h g _ := by simp only [RdC, RdD] at h; obtain ⟨_, _, rfl, ⟨rfl, _⟩, rfl⟩ := h; exact rfl
  back h g := by simp only [OwnC, OwnD] at h; obtain ⟨F1, F2, _, _, rfl, _, rfl, ⟨rfl, rfl, _⟩, rfl, rfl⟩ := h; exact ⟨[], ⟨rfl, rfl⟩, by simp⟩
  fwdO h := by obtain ⟨rfl, rfl⟩ := h; exact ⟨[], by simp only [OwnC, OwnD]; exact ⟨[], [], _, [], rfl, by simp, rfl, ⟨rfl, rfl, rfl⟩, rfl, rfl⟩, by simp⟩
def eStr : Enc cStr where
  e x := [.v (.string x)]
  good x := x.size ≤ maxLen
  len _ := rfl
  pos := Nat.one_pos
  gd h := h.2
  fwd h _ := by obtain ⟨rfl, _⟩ := h; simp only [RdC, RdD]; exact ⟨_, _, rfl, ⟨rfl, rfl⟩, rfl⟩
  rd h g _ := by simp only [RdC, RdD] at h; obtain ⟨_, _, rfl, ⟨rfl, _⟩, rfl⟩ := h; exact ⟨rfl, g⟩
  back h g := by simp only [OwnC, OwnD] at h; obtain ⟨F1, F2, _, _, rfl, _, rfl, ⟨rfl, rfl, _⟩, rfl, rfl⟩ := h; exact ⟨[], ⟨⟨rfl, g⟩, rfl⟩, by simp⟩
  fwdO h := by obtain ⟨⟨rfl, _⟩, rfl⟩ := h; exact ⟨[], by simp only [OwnC, OwnD]; exact ⟨[], [], _, [], rfl, by simp, rfl, ⟨rfl, rfl, rfl⟩, rfl, rfl⟩, by simp⟩
def ePair {α β : Type} {c : Cod α} {d : Cod β} (p : Enc c) (q : Enc d) : Enc (cPair c d) where
  e x := p.e x.1 ++ q.e x.2
  good x := p.good x.1 ∧ q.good x.2
  len x := by rw [List.length_append, p.len, q.len]; rfl
  pos := Nat.lt_of_lt_of_le p.pos (Nat.le_add_right _ _)
  gd h := by obtain ⟨u, v, rfl, h1, h2⟩ := h; exact ⟨p.gd h1, q.gd h2⟩
  fwd h k := by obtain ⟨u, v, rfl, h1, h2⟩ := h; exact (p.fwd h1 k).app (q.fwd h2 k)
  rd h g k := by obtain ⟨u, v, rfl, h1, h2⟩ := h.split; exact ⟨u, v, rfl, p.rd h1 g.1 k, q.rd h2 g.2 k⟩
  back h g := by
    obtain ⟨F1, F2, u, v, rfl, hd, rfl, h1, h2⟩ := h.split2
    obtain ⟨F3, h3, h4⟩ := p.back h1 g.1
    obtain ⟨F5, h5, h6⟩ := q.back h2 g.2
    refine ⟨F3 ++ F5, ⟨u, v, F3, F5, rfl, h3, h5, rfl, fun k hk hk5 => hd k (h4 k hk) (h6 k hk5)⟩, fun k hk => ?_⟩
    rcases List.mem_append.1 hk with hk | hk
    · exact List.mem_append_left _ (h4 k hk)
    · exact List.mem_append_right _ (h6 k hk)
  fwdO h := by
    obtain ⟨u, v, F1, F2, rfl, h1, h2, rfl, hd⟩ := h
    obtain ⟨F3, h3, h4⟩ := p.fwdO h1
    obtain ⟨F5, h5, h6⟩ := q.fwdO h2
    refine ⟨F3 ++ F5, h3.app2 h5 (fun k hk hk5 => hd k (h4 k hk) (h6 k hk5)), fun k hk => ?_⟩
    rcases List.mem_append.1 hk with hk | hk
    · exact List.mem_append_left _ (h4 k hk)
    · exact List.mem_append_right _ (h6 k hk)
def eMap {α β : Type} (f : α → β) {c : Cod β} (p : Enc c) : Enc (cMap f c) where
  e x := p.e (f x)
  good x := p.good (f x)
  len x := p.len (f x)
  pos := p.pos
  gd h := p.gd h
  fwd h := p.fwd h
  rd h := p.rd h
  back h := p.back h
  fwdO h := p.fwdO h
section
variable {α : Type} {c : Cod α} (p : Enc c)
theorem fwdE {B b : Nat} {w : World} {K : Nat → Nat → Prop} (hb : b < B) (hK : ∀ b o, b < B → K b o) : ∀ (l : List α) (off : Nat), (∀ j (hj : j < l.length), ∃ es, c.ok B w l[j] es ∧ ∀ i, i < c.n → w.cell? ⟨b, off + j * c.n + i, none⟩ = es[i]?) →
    ∃ cs, RdE w K c.n (l.map p.e) cs ∧ Cells w K b off cs
  | [], off, h => ⟨[], by simp only [List.map_nil, RdE], fun i c hi => by simp at hi⟩
  | x :: l, off, h => by
    obtain ⟨es, h1, h2⟩ := h 0 (by simp)
    obtain ⟨cs, h3, h4⟩ := fwdE hb hK l (off + c.n) (fun j hj => by
      obtain ⟨es, h1, h2⟩ := h (j + 1) (by simp; omega)
      refine ⟨es, by simpa using h1, fun i hi => ?_⟩
      rw [← h2 i hi, Nat.succ_mul]
      congr 2; omega)
    have hl : es.length = c.n := c.len h1
    refine ⟨es ++ cs, ?_, fun i v hi => ⟨?_, hK b _ hb⟩⟩
    · simp only [List.map_cons, RdE]
      exact ⟨es, cs, rfl, p.len x, p.fwd h1 hK, h3⟩
    · by_cases hin : i < es.length
      · rw [List.getElem?_append_left hin] at hi
        have := h2 i (by omega)
        simp only [Nat.zero_mul, Nat.add_zero] at this
        rw [this, hi]
      · rw [List.getElem?_append_right (by omega)] at hi
        have := (h4 _ _ hi).1
        rw [hl] at this
        rw [← this]
        congr 2; omega
theorem rdE {B : Nat} {w : World} {K : Nat → Nat → Prop} (hK : ∀ b o, K b o → b < B) {l : List α} {n : Nat} {cs : List Value} (h : RdE w K n (l.map p.e) cs) (g : ∀ x, x ∈ l → p.good x) (j : Nat) (hj : j < l.length) :
    c.n = n ∧ ∃ es, c.ok B w l[j] es ∧ ∀ i, i < c.n → cs[j * c.n + i]? = es[i]? := by
  obtain ⟨hn, c1, h1, h2⟩ := h.get (j := j) (e := p.e l[j]) (by simp [hj])
  rw [p.len] at hn
  have hok := p.rd h1 (g _ (List.getElem_mem hj)) hK
  refine ⟨hn, c1, hok, fun i hi => ?_⟩
  have hl := c.len hok
  rw [hn, h2 i c1[i] (by simp), List.getElem?_eq_getElem]
theorem backE {w : World} {n : Nat} (hn : n = c.n) : ∀ (l : List α) (F : List Nat) (cs : List Value), OwnE w n (l.map p.e) F cs → (∀ x, x ∈ l → p.good x) →
    ∃ G : Nat → List Nat, (∀ j, j < l.length → ∀ k, k ∈ G j → k ∈ F) ∧ (∀ i j, i < l.length → j < l.length → i ≠ j → ∀ k, k ∈ G i → k ∉ G j) ∧ ∀ j (hj : j < l.length), ∃ es, c.own (G j) w l[j] es ∧ ∀ i, i < c.n → cs[j * c.n + i]? = es[i]?
  | [], F, cs, h, g => ⟨fun _ => [], by simp, by simp, by simp⟩
  | x :: l, F, cs, h, g => by
    simp only [List.map_cons, OwnE] at h
    obtain ⟨F1, F2, c1, c2, rfl, hd, rfl, h1, h2, h3⟩ := h
    obtain ⟨F3, h4, h5⟩ := p.back h2 (g x (by simp))
    obtain ⟨G, h6, h7, h8⟩ := backE hn l F2 c2 h3 (fun y hy => g y (by simp [hy]))
    have hl : c1.length = c.n := by rw [h2.len, h1, hn]
    refine ⟨fun j => match j with | 0 => F3 | j + 1 => G j, ?_, ?_, ?_⟩
    · rintro (_ | j) hj k hk
      · exact List.mem_append_left _ (h5 k hk)
      · exact List.mem_append_right _ (h6 j (by simp at hj; omega) k hk)
    · rintro (_ | i) (_ | j) hi hj hij k hk
      · exact absurd rfl hij
      · exact fun hk2 => hd k (h5 k hk) (h6 j (by simp at hj; omega) k hk2)
      · exact fun hk2 => hd k (h5 k hk2) (h6 i (by simp at hi; omega) k hk)
      · exact h7 i j (by simp at hi; omega) (by simp at hj; omega) (by omega) k hk
    · rintro (_ | j) hj
      · refine ⟨c1, h4, fun i hi => ?_⟩
        rw [List.getElem?_append_left (by omega)]
        simp
      · obtain ⟨es, h9, h10⟩ := h8 j (by simp at hj; omega)
        refine ⟨es, h9, fun i hi => ?_⟩
        rw [← h10 i hi, Nat.succ_mul, List.getElem?_append_right (by omega)]
        congr 1; omega
theorem fwdOE {b : Nat} {w : World} : ∀ (l : List α) (off : Nat) (G : Nat → List Nat), (∀ i j, i < l.length → j < l.length → i ≠ j → ∀ k, k ∈ G i → k ∉ G j) → (∀ j (hj : j < l.length), ∃ es, c.own (G j) w l[j] es ∧ ∀ i, i < c.n → w.cell? ⟨b, off + j * c.n + i, none⟩ = es[i]?) →
    ∃ F cs, OwnE w c.n (l.map p.e) F cs ∧ (∀ k, k ∈ F → ∃ j, j < l.length ∧ k ∈ G j) ∧ ∀ i v, cs[i]? = some v → w.cell? ⟨b, off + i, none⟩ = some v
  | [], off, G, _, h => ⟨[], [], by simp only [List.map_nil, OwnE, and_self], by simp, by simp⟩
  | x :: l, off, G, hd, h => by
    obtain ⟨es, h1, h2⟩ := h 0 (by simp)
    obtain ⟨F1, h5, h6⟩ := p.fwdO h1
    obtain ⟨F, cs, h3, h4, h7⟩ := fwdOE l (off + c.n) (fun j => G (j + 1)) (fun i j hi hj hij => hd (i + 1) (j + 1) (by simp; omega) (by simp; omega) (by omega)) (fun j hj => by
      obtain ⟨es, h1, h2⟩ := h (j + 1) (by simp; omega)
      refine ⟨es, by simpa using h1, fun i hi => ?_⟩
      rw [← h2 i hi, Nat.succ_mul]
      congr 2; omega)
    have hl : es.length = c.n := by rw [h5.len, p.len]
    refine ⟨F1 ++ F, es ++ cs, ?_, fun k hk => ?_, fun i v hi => ?_⟩
    · simp only [List.map_cons, OwnE]
      refine ⟨F1, F, es, cs, rfl, fun k hk hk2 => ?_, rfl, p.len x, h5, h3⟩
      obtain ⟨j, hj, hk3⟩ := h4 k hk2
      exact hd 0 (j + 1) (by simp) (by simp; omega) (by omega) k (h6 k hk) hk3
    · rcases List.mem_append.1 hk with hk | hk
      · exact ⟨0, by simp, h6 k hk⟩
      · obtain ⟨j, hj, hk⟩ := h4 k hk
        exact ⟨j + 1, by simp; omega, hk⟩
    · by_cases hin : i < es.length
      · rw [List.getElem?_append_left hin] at hi
        have := h2 i (by omega)
        simp only [Nat.zero_mul, Nat.add_zero] at this
        rw [this, hi]
      · rw [List.getElem?_append_right (by omega)] at hi
        have := h7 _ _ hi
        rw [hl] at this
        rw [← this]
        congr 2; omega
def eSlice : Enc (cSlice c) where
  e l := [.sl (l.map p.e)]
  good l := l.length ≤ maxLen ∧ ∀ x, x ∈ l → p.good x
  len _ := rfl
  pos := Nat.one_pos
  gd h := by
    obtain ⟨a, cap, rfl, h1, h2⟩ := h
    refine ⟨h1.1, fun x hx => ?_⟩
    obtain ⟨j, hj, rfl⟩ := List.mem_iff_getElem.1 hx
    obtain ⟨b, off, es, _, _, h3, _⟩ := h2 j hj
    exact p.gd h3
  fwd {B w x cs K} h hK := by
    obtain ⟨a, cap, rfl, h1, h2⟩ := h
    simp only [RdC, RdD]
    refine ⟨_, _, rfl, ?_, rfl⟩
    by_cases hx : x = []
    · subst hx
      exact ⟨a, cap, c.n, [], by simp, by simp, by simp, by simp only [List.map_nil, RdE], .inl (by simp)⟩
    · have h0 : 0 < x.length := List.length_pos_iff.2 hx
      obtain ⟨b, off, es, rfl, hb, _, _⟩ := h2 0 h0
      obtain ⟨cs, h3, h4⟩ := fwdE p hb hK x off (fun j hj => by
        obtain ⟨b', off', es, e, _, h5, h6⟩ := h2 j hj
        simp only [Option.some.injEq, Addr.mk.injEq, and_true] at e
        obtain ⟨rfl, rfl⟩ := e
        exact ⟨es, h5, h6⟩)
      exact ⟨_, cap, c.n, cs, by simp, by simpa using h1.2, by simpa using h1.1, h3, .inr ⟨b, off, rfl, h4⟩⟩
  rd {B w x cs K} h g hK := by
    simp only [RdC, RdD] at h
    obtain ⟨_, _, rfl, ⟨a, cap, n, cs, rfl, h1, h2, h3, h4⟩, rfl⟩ := h
    simp only [List.length_map] at h1 h2 ⊢
    refine ⟨a, cap, rfl, ⟨h2, h1⟩, fun j hj => ?_⟩
    obtain ⟨hn, es, h5, h6⟩ := rdE p hK h3 g.2 j hj
    rcases h4 with h4 | ⟨b, off, rfl, h4⟩
    · have h4 : x = [] := by simpa using h4
      subst h4; simp at hj
    · have hl : es.length = c.n := c.len h5
      have hz : ∀ i, i < c.n → ∃ v, cs[j * c.n + i]? = some v := fun i hi => ⟨es[i], by rw [h6 i hi]; simp⟩
      obtain ⟨v, hv⟩ := hz 0 p.pos
      refine ⟨b, off, es, rfl, hK b _ (h4 _ _ hv).2, h5, fun i hi => ?_⟩
      obtain ⟨v, hv⟩ := hz i hi
      rw [← h6 i hi, hv, Nat.add_assoc]
      exact (h4 _ _ hv).1
  back {F w x cs} h g := by
    simp only [OwnC, OwnD] at h
    obtain ⟨F1, F2, _, _, rfl, _, rfl, ⟨a, cap, n, cs, rfl, h1, h2, h3⟩, rfl, rfl⟩ := h
    simp only [List.length_map] at h1 h2 ⊢
    by_cases hx : x = []
    · exact ⟨[], ⟨a, cap, rfl, ⟨h2, h1⟩, .inl ⟨hx, rfl⟩⟩, by simp⟩
    rcases h3 with ⟨h3, _⟩ | ⟨b, off, F', rfl, rfl, h4, h5, h6, h7⟩
    · exact absurd (by simpa using h3) hx
    have hn : n = c.n := by
      obtain ⟨y, l, rfl⟩ := List.exists_cons_of_ne_nil hx
      simp only [List.map_cons, OwnE] at h7
      obtain ⟨_, _, _, _, _, _, _, h8, _⟩ := h7
      rw [← h8, p.len]
    obtain ⟨G, h8, h9, h10⟩ := backE p hn x F' cs h7 g.2
    have hl := h7.len
    rw [List.length_map, hn] at hl
    have hc : ∀ i, i < x.length * c.n → ∃ v, cs[i]? = some v := fun i hi => ⟨cs[i], by simp⟩
    refine ⟨b :: F', ⟨_, cap, rfl, ⟨h2, h1⟩, .inr ⟨b, off, G, rfl, by simp, h5, fun j hj k hk => ⟨by simp [h8 j hj k hk], fun e => h4 (e ▸ h8 j hj k hk)⟩, h9, fun j hj => ?_, fun j hj => ?_⟩⟩, by simp⟩
    · obtain ⟨v, hv⟩ := hc j hj
      exact (h6 _ _ hv).2
    · obtain ⟨es, h11, h12⟩ := h10 j hj
      refine ⟨es, h11, fun i hi => ?_⟩
      obtain ⟨v, hv⟩ := hc (j * c.n + i) (by
        have : (j + 1) * c.n ≤ x.length * c.n := Nat.mul_le_mul_right _ hj
        rw [Nat.succ_mul] at this
        omega)
      rw [← h12 i hi, hv, Nat.add_assoc]
      exact (h6 _ _ hv).1
  fwdO {F w x cs} h := by
    obtain ⟨a, cap, rfl, h1, h2⟩ := h
    have nil : x = [] → ∃ F', OwnC w [.sl (x.map p.e)] F' [.slice a x.length cap] ∧ ∀ k, k ∈ F' → k ∈ F := fun hx => by
      subst hx
      refine ⟨[], ?_, by simp⟩
      simp only [OwnC, OwnD]
      exact ⟨[], [], _, [], rfl, by simp, rfl, ⟨a, cap, c.n, [], by simp, by simp, by simp, .inl ⟨by simp, rfl, rfl⟩⟩, rfl, rfl⟩
    rcases h2 with ⟨h2, _⟩ | ⟨g, off, G, rfl, h2, h3, h4, h5, h6, h7⟩
    · exact nil h2
    by_cases hx : x = []
    · exact nil hx
    obtain ⟨F', vs, h8, h9, h10⟩ := fwdOE p x off G h5 h7
    have hl := h8.len
    rw [List.length_map] at hl
    refine ⟨g :: F', ?_, fun k hk => ?_⟩
    · simp only [OwnC, OwnD]
      refine ⟨g :: F', [], _, [], by simp, by simp, rfl, ⟨_, cap, c.n, vs, by simp, by simpa using h1.2, by simpa using h1.1, .inr ⟨g, off, F', rfl, rfl, fun hg => ?_, h3, fun i v hi => ⟨h10 i v hi, h6 i ?_⟩, h8⟩⟩, rfl, rfl⟩
      · obtain ⟨j, hj, hk⟩ := h9 g hg
        exact (h4 j hj g hk).2 rfl
      · have := (List.getElem?_eq_some_iff.1 hi).1
        omega
    · rcases List.mem_cons.1 hk with rfl | hk
      · exact h2
      · obtain ⟨j, hj, hk⟩ := h9 k hk
        exact (h4 j hj k hk).1
end
/-- A contract, as the laws' walks want it: the arguments stand there; a slice of the call's own comes back. -/
theorem AC.call {P : Program} {f : FuncId} {args : List S} {V : S} (h : AC P f args V) {w : World} {cs : List Value} (hr : RdSs w (ghA (fun b _ => b < w.heap.size) fun _ => .nilIface) args cs) (hg : Glob w := by first | assumption | exact trivial) :
    Calls P f cs.toArray w fun e w' => ∃ c, e = .returned c ∧ RdV w (fun b _ => b < w.heap.size) w' V c ∧ Below w.heap.size w w' :=
  h.2.2.2 w _ cs _ hg (fun _ _ hb => hb) hr
section
variable {α : Type} {c : Cod α} (p : Enc c)
/-- An argument of one cell (a number, a string, a slice). -/
theorem Enc.arg1 {w : World} {x : α} {v : Value} {d : D} (hd : p.e x = [d]) (h : At c w x [v]) {ov : Nat → Value} : RdS w (ghA (fun b _ => b < w.heap.size) ov) (.d d) v := by
  have := p.fwd h (K := fun b _ => b < w.heap.size) (fun _ _ hb => hb)
  rw [hd] at this
  simp only [RdC] at this
  obtain ⟨_, _, e, h1, rfl⟩ := this
  injection e with e
  subst e
  exact h1
theorem rdSs_map {w : World} {G : Gh} : ∀ {ds : List D} {cs : List Value}, RdC w G.K ds cs → RdSs w G (ds.map S.d) cs
  | [], cs, h => by simpa only [RdC, List.map_nil, RdSs] using h
  | d :: ds, cs, h => by
    simp only [RdC] at h
    obtain ⟨v, c2, rfl, h1, h2⟩ := h
    simp only [List.map_cons, RdSs, RdS]
    exact ⟨v, c2, rfl, h1, rdSs_map h2⟩
/-- A struct handed over. -/
theorem Enc.argA {w : World} {x : α} {cs : List Value} (h : At c w x cs) {ov : Nat → Value} : RdS w (ghA (fun b _ => b < w.heap.size) ov) (.a ((p.e x).map S.d)) (.agg cs.toArray) := by
  have := p.fwd h (K := fun b _ => b < w.heap.size) (fun _ _ hb => hb)
  simp only [RdS]
  exact ⟨cs, rfl, rdSs_map this, this.ones⟩
/-- One part of the call's own comes back. -/
theorem Enc.own1 {w w' : World} {K : Nat → Nat → Prop} {x : α} {v : Value} {d : D} {k : Nat} (hd : p.e x = [d]) (g : p.good x) (h : RdV w K w' (.o k d) v) : Own c w.heap.size w' x [v] := by
  obtain ⟨F, ov, h1, h2, _⟩ := h
  simp only [RdS, ghA] at h1
  obtain ⟨h3, h4⟩ := h2 (k, d) (by simp [S.os])
  obtain ⟨F', h5, h6⟩ := p.back (x := x) (F := F k) (cs := [v]) (by
    rw [hd]
    simp only [OwnC]
    exact ⟨F k, [], v, [], by simp, by simp, rfl, by rw [h1.2]; exact h3, rfl, rfl⟩) g
  exact ⟨F', h5, fun k hk => h4 k (h6 k hk)⟩
/-- What a struct's parts say: flat, or the call's own. -/
def Parts : List S → List D → Prop
  | [], [] => True
  | .d z :: l, d :: ds => z = d ∧ z.flat ∧ Parts l ds
  | .o _ z :: l, d :: ds => z = d ∧ Parts l ds
  | _, _ => False
theorem Parts.own {w' : World} {G : Gh} {F : Nat → List Nat} : ∀ {l : List S} {ds : List D} {cs : List Value}, Parts l ds → RdSs w' G l cs → (∀ p, p ∈ S.oss l → OwnD w' p.2 (F p.1) (G.ov p.1)) → ((S.oss l).map (·.1)).Nodup →
    (∀ p q, p ∈ S.oss l → q ∈ S.oss l → p.1 ≠ q.1 → ∀ k, k ∈ F p.1 → k ∉ F q.1) → ∃ F', OwnC w' ds F' cs ∧ ∀ k, k ∈ F' → ∃ p, p ∈ S.oss l ∧ k ∈ F p.1
  | [], [], cs, hp, hr, _, _, _ => ⟨[], ⟨rfl, by simpa only [RdSs] using hr⟩, by simp⟩
  | .d z :: l, d :: ds, cs, hp, hr, ho, hn, hd => by
    simp only [Parts] at hp
    obtain ⟨rfl, hf, hp⟩ := hp
    simp only [RdSs, RdS] at hr
    obtain ⟨v, c2, rfl, h1, h2⟩ := hr
    simp only [S.oss, S.os, List.nil_append] at ho hn hd ⊢
    obtain ⟨F', h3, h4⟩ := Parts.own hp h2 ho hn hd
    have h5 : OwnC w' [z] [] [v] := OwnC.ofFlat (K := G.K) (by simp only [RdC]; exact ⟨v, [], rfl, h1, rfl⟩) (by simpa using hf)
    simp only [OwnC] at h5
    obtain ⟨F1, F2, v', _, e, _, e2, h6, rfl, rfl⟩ := h5
    injection e2 with e2
    subst e2
    have e : F1 = [] := by simpa using e
    subst e
    refine ⟨F', ?_, h4⟩
    simp only [OwnC]
    exact ⟨[], F', v, c2, rfl, by simp, rfl, h6, h3⟩
  | .o j z :: l, d :: ds, cs, hp, hr, ho, hn, hd => by
    simp only [Parts] at hp
    obtain ⟨rfl, hp⟩ := hp
    simp only [RdSs, RdS] at hr
    obtain ⟨v, c2, rfl, ⟨_, h1⟩, h2⟩ := hr
    simp only [S.oss, S.os, List.cons_append, List.nil_append, List.map_cons, List.nodup_cons] at ho hn hd ⊢
    obtain ⟨F', h3, h4⟩ := Parts.own hp h2 (fun p h => ho p (List.mem_cons_of_mem _ h)) hn.2 (fun p q h k => hd p q (List.mem_cons_of_mem _ h) (List.mem_cons_of_mem _ k))
    refine ⟨F j ++ F', ?_, fun k hk => ?_⟩
    · simp only [OwnC]
      refine ⟨F j, F', v, c2, rfl, fun k hk hk2 => ?_, rfl, by rw [h1]; exact ho (j, z) (by simp), h3⟩
      obtain ⟨q, hq, hk3⟩ := h4 k hk2
      exact hd (j, z) q (by simp) (List.mem_cons_of_mem _ hq) (fun e => hn.1 (by rw [show j = q.1 from e]; exact List.mem_map_of_mem hq)) k hk hk3
    · rcases List.mem_append.1 hk with hk | hk
      · exact ⟨(j, z), by simp, hk⟩
      · obtain ⟨q, hq, hk⟩ := h4 k hk
        exact ⟨q, List.mem_cons_of_mem _ hq, hk⟩
/-- A struct, whose parts are the call's own, comes back. -/
theorem Enc.ownA {w w' : World} {K : Nat → Nat → Prop} {x : α} {v : Value} {l : List S} (hd : Parts l (p.e x)) (g : p.good x) (hn : ((S.oss l).map (·.1)).Nodup) (h : RdV w K w' (.a l) v) : ∃ cs : List Value, v = .agg cs.toArray ∧ Own c w.heap.size w' x cs := by
  obtain ⟨F, ov, h1, h2, h3⟩ := h
  simp only [RdS] at h1
  obtain ⟨cs, rfl, h4, _⟩ := h1
  simp only [S.os] at h2 h3
  obtain ⟨F', h5, h6⟩ := hd.own h4 (fun q hq => (h2 q hq).1) hn h3
  obtain ⟨F2, h7, h8⟩ := p.back h5 g
  exact ⟨cs, rfl, F2, h7, fun k hk => by obtain ⟨q, hq, hk⟩ := h6 k (h8 k hk); exact (h2 q hq).2 k hk⟩
/-- What is handed over stands there. -/
theorem Enc.at1 {w : World} {K : Nat → Nat → Prop} {ov : Nat → Value} {x : α} {v : Value} {d : D} (hd : p.e x = [d]) (g : p.good x) (hK : ∀ b o, K b o → b < w.heap.size) (h : RdS w (ghA K ov) (.d d) v) : At c w x [v] :=
  p.rd (K := K) (by rw [hd]; simp only [RdC]; exact ⟨v, [], rfl, h, rfl⟩) g hK
theorem rdC_map {w : World} {G : Gh} : ∀ {ds : List D} {cs : List Value}, RdSs w G (ds.map S.d) cs → RdC w G.K ds cs
  | [], cs, h => by simpa only [RdC, List.map_nil, RdSs] using h
  | d :: ds, cs, h => by
    simp only [List.map_cons, RdSs, RdS] at h
    obtain ⟨v, c2, rfl, h1, h2⟩ := h
    simp only [RdC]
    exact ⟨v, c2, rfl, h1, rdC_map h2⟩
theorem Enc.atA {w : World} {K : Nat → Nat → Prop} {ov : Nat → Value} {x : α} {v : Value} (g : p.good x) (hK : ∀ b o, K b o → b < w.heap.size) (h : RdS w (ghA K ov) (.a ((p.e x).map S.d)) v) : ∃ cs : List Value, v = .agg cs.toArray ∧ At c w x cs := by
  simp only [RdS] at h
  obtain ⟨cs, rfl, h1, _⟩ := h
  exact ⟨cs, rfl, p.rd (K := K) (rdC_map h1) g hK⟩
/-- A contract of the old kind with a plain answer, for the new one. -/
theorem AC.plain {P : Program} {f : FuncId} {fn : Func} (hf : P.funcs[f]? = some fn) (hb : fn.body.isSome = true) (hname : fn.name ≠ "runtime.NumGoroutine") {args : List S} {y : Value} (hy : y.oneCell' = true)
    (h : ∀ (w : World) (K : Nat → Nat → Prop) (cs : List Value) (ov : Nat → Value), (∀ b o, K b o → b < w.heap.size) → RdSs w (ghA K ov) args cs → Calls P f cs.toArray w fun e w' => e = .returned y ∧ Below w.heap.size w w') : AC P f args (.d (.v y)) := by
  refine ⟨⟨fn, hf, hb, hname⟩, by simp only [S.res], by simp only [S.os, List.map_nil, List.nodup_nil], fun w K cs ov _ hK hr => Calls.mono (h w K cs ov hK hr) ?_⟩
  rintro e w' ⟨rfl, h2⟩
  refine ⟨y, rfl, ⟨fun _ => [], fun _ => .nilIface, ?_, by simp [S.os], by simp [S.os]⟩, h2⟩
  simp only [RdS, RdD]
  exact ⟨trivial, hy⟩
/-- The same, where what the program's variables hold is known. -/
theorem AC.plainG {P : Program} {f : FuncId} {fn : Func} (hf : P.funcs[f]? = some fn) (hb : fn.body.isSome = true) (hname : fn.name ≠ "runtime.NumGoroutine") {args : List S} {y : Value} (hy : y.oneCell' = true)
    (h : ∀ (w : World) (K : Nat → Nat → Prop) (cs : List Value) (ov : Nat → Value), Glob w → (∀ b o, K b o → b < w.heap.size) → RdSs w (ghA K ov) args cs → Calls P f cs.toArray w fun e w' => e = .returned y ∧ Below w.heap.size w w') : AC P f args (.d (.v y)) := by
  refine ⟨⟨fn, hf, hb, hname⟩, by simp only [S.res], by simp only [S.os, List.map_nil, List.nodup_nil], fun w K cs ov hg hK hr => Calls.mono (h w K cs ov hg hK hr) ?_⟩
  rintro e w' ⟨rfl, h2⟩
  refine ⟨y, rfl, ⟨fun _ => [], fun _ => .nilIface, ?_, by simp [S.os], by simp [S.os]⟩, h2⟩
  simp only [RdS, RdD]
  exact ⟨trivial, hy⟩
/-- A contract of the old kind, whose answer is a slice of the call's own, for the new one. -/
theorem AC.own1 {P : Program} {f : FuncId} {fn : Func} (hf : P.funcs[f]? = some fn) (hb : fn.body.isSome = true) (hname : fn.name ≠ "runtime.NumGoroutine") {args : List S} {x : α} {d : D} (hd : p.e x = [d])
    (h : ∀ (w : World) (K : Nat → Nat → Prop) (cs : List Value) (ov : Nat → Value), (∀ b o, K b o → b < w.heap.size) → RdSs w (ghA K ov) args cs → Calls P f cs.toArray w fun e w' => (∃ v, e = .returned v ∧ Own c w.heap.size w' x [v]) ∧ Below w.heap.size w w') : AC P f args (.o 0 d) := by
  refine ⟨⟨fn, hf, hb, hname⟩, by simp only [S.res], by simp [S.os], fun w K cs ov _ hK hr => Calls.mono (h w K cs ov hK hr) ?_⟩
  rintro e w' ⟨⟨v, rfl, F, h1, h3⟩, h2⟩
  obtain ⟨F', h4, h5⟩ := p.fwdO h1
  rw [hd] at h4
  have hrd := h4.rd (K := fun b o => K b o ∨ (w.heap.size ≤ b ∧ b < w'.heap.size)) (fun k hk o => .inr (h3 k (h5 k hk)))
  simp only [RdC] at hrd
  obtain ⟨v', _, e, hrd, rfl⟩ := hrd
  injection e with e
  subst e
  simp only [OwnC] at h4
  obtain ⟨F1, F2, v', _, rfl, _, e, h4, rfl, rfl⟩ := h4
  injection e with e
  subst e
  rw [List.append_nil] at h5
  refine ⟨v, rfl, ⟨fun _ => F1, fun _ => v, ?_, ?_, ?_⟩, h2⟩
  · simp only [RdS, ghA]
    exact ⟨hrd, trivial⟩
  · intro q hq
    simp only [S.os, List.mem_singleton] at hq
    subst hq
    exact ⟨h4, fun k hk => h3 k (h5 k hk)⟩
  · intro q q' hq hq' hne
    simp only [S.os, List.mem_singleton] at hq hq'
    subst hq
    subst hq'
    exact (hne rfl).elim
theorem Parts.other {w' : World} {K : Nat → Nat → Prop} {ov ov' : Nat → Value} : ∀ {l : List S} {ds : List D} {cs : List Value}, Parts l ds → RdSs w' (ghA K ov) l cs → (∀ q, q ∈ S.oss l → ov' q.1 = ov q.1) → RdSs w' (ghA K ov') l cs
  | [], [], cs, _, h, _ => by simpa only [RdSs] using h
  | .d z :: l, d :: ds, cs, hp, h, hq => by
    simp only [Parts] at hp
    simp only [RdSs, RdS] at h ⊢
    obtain ⟨v, c2, rfl, h1, h2⟩ := h
    simp only [S.oss, S.os, List.nil_append] at hq
    exact ⟨v, c2, rfl, h1, Parts.other hp.2.2 h2 hq⟩
  | .o j z :: l, d :: ds, cs, hp, h, hq => by
    simp only [Parts] at hp
    simp only [RdSs, RdS] at h ⊢
    obtain ⟨v, c2, rfl, ⟨h1, h3⟩, h2⟩ := h
    simp only [S.oss, S.os, List.cons_append, List.nil_append] at hq
    refine ⟨v, c2, rfl, ⟨h1, ?_⟩, Parts.other hp.2 h2 (fun q h => hq q (List.mem_cons_of_mem _ h))⟩
    rw [h3]
    exact (hq (j, z) (by simp)).symm
/-- Parts of the call's own, each with its blocks. -/
theorem Parts.give {w' : World} {K : Nat → Nat → Prop} : ∀ {l : List S} {ds : List D} {F : List Nat} {cs : List Value}, Parts l ds → OwnC w' ds F cs → ((S.oss l).map (·.1)).Nodup → (∀ k, k ∈ F → ∀ o, K k o) →
    ∃ (Fk : Nat → List Nat) (ov : Nat → Value), RdSs w' (ghA K ov) l cs ∧ (∀ q, q ∈ S.oss l → OwnD w' q.2 (Fk q.1) (ov q.1) ∧ ∀ k, k ∈ Fk q.1 → k ∈ F) ∧ ∀ q q', q ∈ S.oss l → q' ∈ S.oss l → q.1 ≠ q'.1 → ∀ k, k ∈ Fk q.1 → k ∉ Fk q'.1
  | [], [], F, cs, _, h, _, _ => by
    simp only [OwnC] at h
    obtain ⟨rfl, rfl⟩ := h
    exact ⟨fun _ => [], fun _ => .nilIface, by simp only [RdSs], by simp [S.oss], by simp [S.oss]⟩
  | .d z :: l, d :: ds, F, cs, hp, h, hn, hK => by
    simp only [Parts] at hp
    obtain ⟨rfl, hf, hp⟩ := hp
    simp only [OwnC] at h
    obtain ⟨F1, F2, v, c2, rfl, _, rfl, h1, h2⟩ := h
    simp only [S.oss, S.os, List.nil_append] at hn ⊢
    obtain ⟨Fk, ov, h3, h4, h5⟩ := Parts.give hp h2 hn (fun k hk => hK k (List.mem_append_right _ hk))
    refine ⟨Fk, ov, ?_, fun q hq => ⟨(h4 q hq).1, fun k hk => List.mem_append_right _ ((h4 q hq).2 k hk)⟩, h5⟩
    simp only [RdSs, RdS]
    exact ⟨v, c2, rfl, h1.rd (fun k hk => hK k (List.mem_append_left _ hk)), h3⟩
  | .o j z :: l, d :: ds, F, cs, hp, h, hn, hK => by
    simp only [Parts] at hp
    obtain ⟨rfl, hp⟩ := hp
    simp only [OwnC] at h
    obtain ⟨F1, F2, v, c2, rfl, hdj, rfl, h1, h2⟩ := h
    simp only [S.oss, S.os, List.cons_append, List.nil_append, List.map_cons, List.nodup_cons] at hn ⊢
    obtain ⟨Fk, ov, h3, h4, h5⟩ := Parts.give hp h2 hn.2 (fun k hk => hK k (List.mem_append_right _ hk))
    have hne : ∀ q, q ∈ S.oss l → q.1 ≠ j := fun q hq e => hn.1 (by rw [← e]; exact List.mem_map_of_mem hq)
    refine ⟨upd Fk j F1, upd ov j v, ?_, fun q hq => ?_, fun q q' hq hq' hqq k hk => ?_⟩
    · simp only [RdSs, RdS]
      refine ⟨v, c2, rfl, ⟨h1.rd (fun k hk => hK k (List.mem_append_left _ hk)), by simp only [ghA, upd_same]⟩, ?_⟩
      exact Parts.other hp h3 (fun q hq => upd_ne _ _ _ (hne q hq))
    · rcases List.mem_cons.1 hq with rfl | hq
      · simp only [upd_same]
        exact ⟨h1, fun k hk => List.mem_append_left _ hk⟩
      · simp only [upd_ne _ _ _ (hne q hq)]
        exact ⟨(h4 q hq).1, fun k hk => List.mem_append_right _ ((h4 q hq).2 k hk)⟩
    · rcases List.mem_cons.1 hq with rfl | hq <;> rcases List.mem_cons.1 hq' with rfl | hq'
      · exact (hqq rfl).elim
      · simp only [upd_same] at hk
        rw [upd_ne _ _ _ (hne q' hq')]
        exact fun hk2 => hdj k hk ((h4 q' hq').2 k hk2)
      · simp only [upd_ne _ _ _ (hne q hq)] at hk
        simp only [upd_same]
        exact fun hk2 => hdj k hk2 ((h4 q hq).2 k hk)
      · simp only [upd_ne _ _ _ (hne q hq)] at hk
        rw [upd_ne _ _ _ (hne q' hq')]
        exact h5 q q' hq hq' hqq k hk
theorem Parts.res : ∀ {l : List S} {ds : List D}, Parts l ds → S.ress l
  | [], [], _ => by simp only [S.ress]
  | .d z :: l, d :: ds, h => by simp only [Parts] at h; simp only [S.ress, S.res, true_and]; exact Parts.res h.2.2
  | .o j z :: l, d :: ds, h => by simp only [Parts] at h; simp only [S.ress, S.res, true_and]; exact Parts.res h.2
/-- A contract of the old kind, whose answer is a struct with parts of the call's own, for the new one. -/
theorem AC.ownA {P : Program} {f : FuncId} {fn : Func} (hf : P.funcs[f]? = some fn) (hb : fn.body.isSome = true) (hname : fn.name ≠ "runtime.NumGoroutine") {args : List S} {x : α} {l : List S} (hd : Parts l (p.e x)) (hn : ((S.oss l).map (·.1)).Nodup)
    (h : ∀ (w : World) (K : Nat → Nat → Prop) (cs : List Value) (ov : Nat → Value), (∀ b o, K b o → b < w.heap.size) → RdSs w (ghA K ov) args cs → Calls P f cs.toArray w fun e w' => (∃ vs : List Value, e = .returned (.agg vs.toArray) ∧ Own c w.heap.size w' x vs) ∧ Below w.heap.size w w') : AC P f args (.a l) := by
  refine ⟨⟨fn, hf, hb, hname⟩, by simp only [S.res]; exact hd.res, by simpa only [S.os] using hn, fun w K cs ov _ hK hr => Calls.mono (h w K cs ov hK hr) ?_⟩
  rintro e w' ⟨⟨vs, rfl, F, h1, h3⟩, h2⟩
  obtain ⟨F', h4, h5⟩ := p.fwdO h1
  have hk : ∀ k, k ∈ F' → ∀ o : Nat, K k o ∨ (w.heap.size ≤ k ∧ k < w'.heap.size) := fun k hk o => .inr (h3 k (h5 k hk))
  obtain ⟨Fk, ov', h6, h7, h8⟩ := hd.give (K := fun b o => K b o ∨ (w.heap.size ≤ b ∧ b < w'.heap.size)) h4 hn hk
  refine ⟨_, rfl, ⟨Fk, ov', ?_, fun q hq => ⟨(h7 q (by simpa only [S.os] using hq)).1, fun k hk => h3 k (h5 k ((h7 q (by simpa only [S.os] using hq)).2 k hk))⟩, fun q q' hq hq' => h8 q q' (by simpa only [S.os] using hq) (by simpa only [S.os] using hq')⟩, h2⟩
  simp only [RdS]
  exact ⟨vs, rfl, h6, (h4.rd (K := fun _ _ => True) (fun _ _ _ => trivial)).ones⟩
theorem RdV.d {w w' : World} {K : Nat → Nat → Prop} {x v : Value} (h : RdV w K w' (.d (.v x)) v) : v = x := by
  obtain ⟨F, ov, h1, _⟩ := h
  simp only [RdS, RdD] at h1
  exact h1.1
end
end Go.Proofs.Ytpcjhnbifgjleaa.Ab

