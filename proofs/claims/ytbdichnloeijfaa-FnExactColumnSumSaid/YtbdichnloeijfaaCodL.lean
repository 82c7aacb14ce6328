/- Lists of data of the call's own, and the slices that they make. -/
import Derived.Test.YtbdichnloeijfaaCod
namespace Go.Proofs.Ytbdichnloeijfaa
open Go.RowKit
set_option linter.unusedVariables false
set_option maxRecDepth 100000

/-- A list of data, each in blocks of its own. -/
def ownL {α : Type} (c : Cod α) : List Nat → World → List α → List (List Value) → Prop
  | F, _, [], [] => F = []
  | F, w, x :: l, cs :: css => ∃ F1 F2, F = F1 ++ F2 ∧ c.own F1 w x cs ∧ ownL c F2 w l css ∧ ∀ k, k ∈ F1 → k ∉ F2
  | _, _, [], _ :: _ => False
  | _, _, _ :: _, [] => False
variable {α : Type} {c : Cod α}
theorem le_sum {F : List Nat} {k : Nat} (h : k ∈ F) : k ≤ F.sum := by
  induction F with
  | nil => cases h
  | cons a F ih =>
    rw [List.sum_cons]
    rcases List.mem_cons.1 h with rfl | h
    · omega
    · have := ih h; omega
theorem Cod.lenO {F : List Nat} {w : World} {x : α} {cs : List Value} (h : c.own F w x cs) : cs.length = c.n :=
  c.len (c.ofO (B := F.sum + 1) h (fun k hk => by have := le_sum hk; omega))
theorem ownL_nil (w : World) : ownL c [] w [] [] := rfl
theorem ownL_keep {w w' : World} : ∀ {F : List Nat} {l : List α} {css : List (List Value)}, ownL c F w l css → (∀ k, k ∈ F → w'.heap[k]? = w.heap[k]?) → ownL c F w' l css
  | F, [], [], h, _ => h
  | F, x :: l, cs :: css, ⟨F1, F2, e, h1, h2, hd⟩, hk => by
    subst e
    exact ⟨F1, F2, rfl, c.keepO h1 (fun k hk1 => hk k (List.mem_append_left _ hk1)), ownL_keep h2 (fun k hk1 => hk k (List.mem_append_right _ hk1)), hd⟩
  | _, [], _ :: _, h, _ => h.elim
  | _, _ :: _, [], h, _ => h.elim
theorem ownL_snoc {w : World} {x : α} {cs : List Value} {G : List Nat} (hx : c.own G w x cs) : ∀ {F : List Nat} {l : List α} {css : List (List Value)}, ownL c F w l css → (∀ k, k ∈ F → k ∉ G) → ownL c (F ++ G) w (l ++ [x]) (css ++ [cs])
  | F, [], [], h, _ => by obtain rfl : F = [] := h; exact ⟨G, [], by simp, hx, rfl, by simp⟩
  | F, y :: l, ds :: css, ⟨F1, F2, e, h1, h2, hd⟩, hk => by
    subst e
    refine ⟨F1, F2 ++ G, by simp, h1, ownL_snoc hx h2 (fun k hk1 => hk k (List.mem_append_right _ hk1)), fun k h => ?_⟩
    simp only [List.mem_append, not_or]
    exact ⟨hd k h, hk k (List.mem_append_left _ h)⟩
  | _, [], _ :: _, h, _ => h.elim
  | _, _ :: _, [], h, _ => h.elim
theorem ownL_len {w : World} : ∀ {F : List Nat} {l : List α} {css : List (List Value)}, ownL c F w l css → css.length = l.length ∧ css.flatten.length = l.length * c.n
  | F, [], [], _ => by simp
  | F, x :: l, cs :: css, ⟨F1, F2, _, h1, h2, _⟩ => by
    have := ownL_len h2
    have h3 := Cod.lenO h1
    refine ⟨by simp [this.1], ?_⟩
    rw [List.flatten_cons, List.length_append, this.2, h3, List.length_cons, Nat.succ_mul, Nat.add_comm]
  | _, [], _ :: _, h => h.elim
  | _, _ :: _, [], h => h.elim
theorem ownL_get {w : World} : ∀ {F : List Nat} {l : List α} {css : List (List Value)}, ownL c F w l css → ∃ G : Nat → List Nat, (∀ j, j < l.length → ∀ k, k ∈ G j → k ∈ F) ∧
    (∀ i j, i < l.length → j < l.length → i ≠ j → ∀ k, k ∈ G i → k ∉ G j) ∧ ∀ j (hj : j < l.length), ∃ es, c.own (G j) w l[j] es ∧ ∀ i, i < c.n → css.flatten[j * c.n + i]? = es[i]?
  | F, [], [], _ => ⟨fun _ => [], by simp, by simp, by simp⟩
  | F, x :: l, cs :: css, ⟨F1, F2, e, h1, h2, hd⟩ => by
    subst e
    obtain ⟨G, hG, hGG, he⟩ := ownL_get h2
    have hn := Cod.lenO h1
    refine ⟨fun j => match j with | 0 => F1 | j + 1 => G j, ?_, ?_, ?_⟩
    · intro j hj k hk
      cases j with
      | zero => exact List.mem_append_left _ hk
      | succ j => exact List.mem_append_right _ (hG j (by simpa using hj) k hk)
    · intro i j hi hj hij k hk
      cases i with
      | zero => cases j with
        | zero => exact absurd rfl hij
        | succ j => intro h; exact hd k hk (hG j (by simpa using hj) k h)
      | succ i => cases j with
        | zero => intro h; exact hd k h (hG i (by simpa using hi) k hk)
        | succ j => exact hGG i j (by simpa using hi) (by simpa using hj) (by omega) k hk
    · intro j hj
      cases j with
      | zero =>
        refine ⟨cs, h1, fun i hi => ?_⟩
        rw [Nat.zero_mul, Nat.zero_add, List.flatten_cons, List.getElem?_append_left (by omega)]
      | succ j =>
        obtain ⟨es, h3, h4⟩ := he j (by simpa using hj)
        refine ⟨es, h3, fun i hi => ?_⟩
        rw [List.flatten_cons, List.getElem?_append_right (by rw [hn, Nat.succ_mul]; omega), ← h4 i hi]
        congr 1
        rw [hn, Nat.succ_mul]; omega
  | _, [], _ :: _, h => h.elim
  | _, _ :: _, [], h => h.elim
theorem slice_of_ownL {w : World} {F : List Nat} {l : List α} {css : List (List Value)} {base g cap : Nat} {e : TypeId} (h : ownL c F w l css)
    (hr : w.ownsRow base e c.n (.slice (some ⟨g, 0, none⟩) l.length cap) l.length css.flatten) (hg : g ∉ F) (hm : l.length ≤ maxLen) :
    (cSlice c).own (g :: F) w l [.slice (some ⟨g, 0, none⟩) l.length cap] := by
  obtain ⟨G, hG, hGG, he⟩ := ownL_get h
  have hlt := (hr.lt g rfl).2
  have hcap : l.length ≤ cap := by
    rcases hr.2 with ⟨h0, _⟩ | ⟨g', cap', cur, e0, _, _, hnc, _⟩
    · cases h0
    · simp at e0; omega
  refine ⟨_, _, rfl, ⟨hm, hcap⟩, .inr ⟨g, 0, G, rfl, by simp, hlt, fun j hj k hk => ⟨List.mem_cons_of_mem _ (hG j hj k hk), fun e => hg (e ▸ hG j hj k hk)⟩, hGG, fun j hj => by rw [Nat.zero_add]; exact hr.frozenAt j, fun j hj => ?_⟩⟩
  obtain ⟨es, h1, h2⟩ := he j hj
  refine ⟨es, h1, fun i hi => ?_⟩
  rw [Nat.zero_add, hr.cellAt _ ?_, h2 i hi]
  calc j * c.n + i < j * c.n + c.n := by omega
    _ = (j + 1) * c.n := by rw [Nat.succ_mul]
    _ ≤ l.length * c.n := Nat.mul_le_mul_right _ hj
/-- The slice nil. -/
theorem Own.nil (B : Nat) (w : World) : Own (cSlice c) B w [] [.slice none 0 0] := ⟨[], ⟨none, 0, rfl, by simp, .inl ⟨rfl, rfl⟩⟩, by simp⟩
/-- A slice of the call's own, of data of the call's own. -/
theorem Own.slice {w : World} {F : List Nat} {l : List α} {css : List (List Value)} {base g cap : Nat} {e : TypeId} (h : ownL c F w l css)
    (hr : w.ownsRow base e c.n (.slice (some ⟨g, 0, none⟩) l.length cap) l.length css.flatten) (hF : ∀ k, k ∈ F → base ≤ k ∧ k < w.heap.size ∧ k ≠ g) (hm : l.length ≤ maxLen) :
    Own (cSlice c) base w l [.slice (some ⟨g, 0, none⟩) l.length cap] := by
  refine ⟨g :: F, slice_of_ownL h hr (fun hg => (hF g hg).2.2 rfl) hm, fun k hk => ?_⟩
  rcases List.mem_cons.1 hk with rfl | hk
  · exact hr.lt _ rfl
  · exact ⟨(hF k hk).1, (hF k hk).2.1⟩
/-- Data without memory behind them. -/
theorem ownL_flat (enc : α → List Value) (w : World) : ∀ l : List α, (∀ x, x ∈ l → c.own [] w x (enc x)) → ownL c [] w l (l.map enc)
  | [], _ => rfl
  | x :: l, h => ⟨[], [], rfl, h x (by simp), ownL_flat enc w l (fun y hy => h y (by simp [hy])), by simp⟩
theorem Own.setCell {w : World} {B : Nat} {x : α} {cs : List Value} (h : Own c B w x cs) {p : Addr} (hp : p.block < B) (u : Value) : Own c B (w.setCell p u) x cs := by
  obtain ⟨F, h1, h2⟩ := h
  exact ⟨F, c.keepO h1 (fun k hk => Below.heap_setCell _ _ _ _ (by have := (h2 k hk).1; omega)), fun k hk => ⟨(h2 k hk).1, by simpa [World.setCell] using (h2 k hk).2⟩⟩
/-- In a step that keeps what stands in blocks of the list. -/
theorem ownL_below {w w' : World} {F : List Nat} {l : List α} {css : List (List Value)} {C : Nat} (h : ownL c F w l css) (hb : Below C w w') (hF : ∀ k, k ∈ F → k < C) : ownL c F w' l css :=
  ownL_keep h (fun k hk => hb.block k (hF k hk))
end Go.Proofs.Ytbdichnloeijfaa

