/- MarkOne: MarkA MarkB MarkC MarkD. -/
import Derived.Test.YtpcjhnbifgjleaaTyOne
import Derived.Lib.ItoaLen
import Derived.Test.YtpcjhnbifgjleaaTyTwo
import Derived.Test.YtpcjhnbifgjleaaGrow
/- The laws' marks: numbers written into every place of a datum, and read again. The text of a mark, marks in a slice of numbers. -/
namespace Go.Proofs.Ytpcjhnbifgjleaa
open Go.RowKit
set_option linter.unusedVariables false
set_option maxRecDepth 100000

/-- From w to w' nothing has turned but in the blocks F, and what is new. -/
structure Only (F : List Nat) (w w' : World) : Prop where
  os : w'.os = w.os
  tape : w'.tape = w.tape
  output : w'.output = w.output
  size : w.heap.size ≤ w'.heap.size
  block : ∀ k, k < w.heap.size → k ∉ F → w'.heap[k]? = w.heap[k]?
theorem Only.refl (F : List Nat) (w : World) : Only F w w := ⟨rfl, rfl, rfl, Nat.le_refl _, fun _ _ _ => rfl⟩
theorem Only.trans {F G H : List Nat} {a b c : World} (h : Only F a b) (k : Only G b c) (hF : ∀ x, x ∈ F → x ∈ H) (hG : ∀ x, x ∈ G → x ∈ H) : Only H a c :=
  ⟨k.os.trans h.os, k.tape.trans h.tape, k.output.trans h.output, Nat.le_trans h.size k.size, fun i hi hn => (k.block i (Nat.lt_of_lt_of_le hi h.size) (fun x => hn (hG i x))).trans (h.block i hi (fun x => hn (hF i x)))⟩
theorem Only.of_below {F : List Nat} {w w' : World} (h : Below w.heap.size w w') : Only F w w' := ⟨h.os, h.tape, h.output, h.size, fun k hk _ => h.block k hk⟩
theorem Only.setCell {F : List Nat} {a w : World} (h : Only F a w) {p : Addr} (hp : p.block ∈ F) (u : Value) : Only F a (w.setCell p u) :=
  h.trans (G := [p.block]) (H := F) ⟨rfl, rfl, rfl, by simp [World.setCell], fun k hk hn => Below.heap_setCell _ _ _ _ (by simpa using hn)⟩ (fun _ h => h) (fun x hx => by simp at hx; exact hx ▸ hp)
theorem Only.below {F : List Nat} {w w' : World} {B : Nat} (h : Only F w w') (hF : ∀ k, k ∈ F → B ≤ k) (hB : B ≤ w.heap.size) : Below B w w' :=
  ⟨h.os, h.tape, h.output, h.size, fun k hk => h.block k (by omega) (fun hm => by have := hF k hm; omega)⟩
theorem Cod.keepOnly {α : Type} {c : Cod α} {F G : List Nat} {w w' : World} {x : α} {cs : List Value} (h : c.own F w x cs) (ho : Only G w w') (hs : ∀ k, k ∈ F → k < w.heap.size) (hd : ∀ k, k ∈ F → k ∉ G) : c.own F w' x cs :=
  c.keepO h (fun k hk => ho.block k (hs k hk) (hd k hk))

/-- A step that turns the blocks F alone, seen from what stands elsewhere. -/
theorem OwnIn.only {α : Type} {c : Cod α} {lo hi lo' hi' : Nat} {F : List Nat} {w w' : World} {x : α} {cs : List Value} (h : OwnIn c lo hi w x cs) (ho : Only F w w') (hF : ∀ k, k ∈ F → lo' ≤ k ∧ k < hi') (hs : hi ≤ w.heap.size) (hd : hi ≤ lo' ∨ hi' ≤ lo) : OwnIn c lo hi w' x cs := by
  obtain ⟨G, h1, h2⟩ := h
  exact ⟨G, c.keepO h1 (fun k hk => ho.block k (by have := (h2 k hk).2; omega) (fun hm => by have := h2 k hk; have := hF k hm; omega)), h2⟩
theorem cell_only {lo' hi' : Nat} {F : List Nat} {w w' : World} {p : Addr} {v : Value} (h : w.cell? p = some v) (ho : Only F w w') (hF : ∀ k, k ∈ F → lo' ≤ k ∧ k < hi') (hd : p.block < lo' ∨ hi' ≤ p.block) : w'.cell? p = some v :=
  (World.cell?_of_block (w := w) (ho.block p.block (World.block_lt_of_cell? w _ h) (fun hm => by have := hF _ hm; omega))).trans h
theorem OwnIn.at {α : Type} {c : Cod α} {lo hi : Nat} {w : World} {x : α} {cs : List Value} (h : OwnIn c lo hi w x cs) (hs : hi ≤ w.heap.size) : At c w x cs := by
  obtain ⟨G, h1, h2⟩ := h
  exact c.ofO h1 (fun k hk => by have := (h2 k hk).2; omega)
theorem OwnIn.next {α : Type} {c : Cod α} {lo hi : Nat} {w W w' : World} {x : α} {cs : List Value} (h : OwnIn c lo hi w x cs) (hs : hi ≤ w.heap.size) (hb : Below W.heap.size W w') (hW : W.heap = w.heap := by rfl) : OwnIn c lo hi w' x cs := by
  obtain ⟨G, h1, h2⟩ := h
  exact ⟨G, c.keepO h1 (fun k hk => by rw [← hW]; exact hb.block k (by rw [hW]; have := (h2 k hk).2; omega)), h2⟩
theorem decDigits_snoc' {u : Nat} (h : ¬ u < 10) : Lib.decDigits u = Lib.decDigits (u / 10) ++ [UInt8.ofNat (48 + u % 10)] := by
  rw [Lib.decDigits, dif_neg h]
/-- The digits of what is left, ahead of those in hand. -/
def mpre (q : Nat) (acc : List UInt8) : List UInt8 := if q = 0 then acc else Lib.decDigits q ++ acc
theorem mpre_step {q : Nat} (h : q ≠ 0) (acc : List UInt8) : mpre q acc = mpre (q / 10) (UInt8.ofNat (48 + q % 10) :: acc) := by
  unfold mpre
  rw [if_neg h]
  by_cases hq : q < 10
  · rw [if_pos (by omega), Lib.decDigits_one hq, Nat.mod_eq_of_lt hq]; rfl
  · rw [if_neg (by omega), decDigits_snoc' hq, List.append_assoc]; rfl
theorem mdig_le (u : Nat) (h : u < 18446744073709551616) : (Lib.decDigits u).length ≤ 20 := by rw [Lib.decDigits_length]; exact Lib.nDigits_le20 u h
theorem mpre_len {q m : Nat} {acc : List UInt8} (H : mpre q acc = Lib.decDigits m) (h : m < 18446744073709551616) : acc.length ≤ 20 := by
  have h1 := mdig_le m h
  rw [← H] at h1
  unfold mpre at h1
  split at h1
  · exact h1
  · rw [List.length_append] at h1; omega
/-- The text of mark m. -/
def mT (m : Nat) : ByteArray := str (109 :: Lib.decDigits m)
theorem mT_size (m : Nat) (h : m < 18446744073709551616) : (mT m).size ≤ 21 := by unfold mT; rw [str_size, List.length_cons]; have := mdig_le m h; omega
end Go.Proofs.Ytpcjhnbifgjleaa
namespace Go.Proofs.Ytpcjhnbifgjleaa
open Go.RowKit
set_option linter.unusedVariables false
set_option maxRecDepth 100000
/-- A slice of the call's own that is not empty, laid open: its block g, its first place off, each element's blocks G and cells es. -/
structure SL {α : Type} (c : Cod α) (F : List Nat) (g off : Nat) (G : Nat → List Nat) (es : Nat → List Value) (w : World) (l : List α) : Prop where
  gF : g ∈ F
  lt : ∀ k, k ∈ F → k < w.heap.size
  sub : ∀ j, j < l.length → ∀ k, k ∈ G j → k ∈ F ∧ k ≠ g
  dis : ∀ i j, i < l.length → j < l.length → i ≠ j → ∀ k, k ∈ G i → k ∉ G j
  fr : ∀ j, j < l.length * c.n → w.frozen? ⟨g, off + j, none⟩ = false
  el : ∀ j (hj : j < l.length), c.own (G j) w l[j] (es j) ∧ ∀ i, i < c.n → w.cell? ⟨g, off + j * c.n + i, none⟩ = (es j)[i]?
variable {α : Type} {c : Cod α}
theorem SL.of_own {F : List Nat} {w : World} {l : List α} {a : Option Addr} {n cap : Nat} (h : (cSlice c).own F w l [.slice a n cap]) (hl : ∀ k, k ∈ F → k < w.heap.size) (h0 : 0 < l.length) :
    ∃ g off G es, a = some ⟨g, off, none⟩ ∧ SL c F g off G es w l := by
  obtain ⟨a', cap', e, hm, h⟩ := h
  simp at e
  obtain ⟨rfl, rfl, rfl⟩ := e
  rcases h with ⟨rfl, _⟩ | ⟨g, off, G, rfl, h1, h2, h3, h4, h5, h6⟩
  · simp at h0
  · have hex : ∀ j, ∃ es, ∀ hj : j < l.length, c.own (G j) w l[j] es ∧ ∀ i, i < c.n → w.cell? ⟨g, off + j * c.n + i, none⟩ = es[i]? := by
      intro j
      by_cases hj : j < l.length
      · obtain ⟨es, h⟩ := h6 j hj
        exact ⟨es, fun _ => h⟩
      · exact ⟨[], fun h => absurd h hj⟩
    exact ⟨g, off, G, fun j => Classical.choose (hex j), rfl, ⟨h1, hl, h3, h4, h5, fun j hj => Classical.choose_spec (hex j) hj⟩⟩
theorem SL.own {F : List Nat} {g off : Nat} {G : Nat → List Nat} {es : Nat → List Value} {w : World} {l : List α} (h : SL c F g off G es w l) (cap : Nat) (hm : l.length ≤ maxLen ∧ l.length ≤ cap) :
    (cSlice c).own F w l [.slice (some ⟨g, off, none⟩) l.length cap] :=
  ⟨_, _, rfl, hm, .inr ⟨g, off, G, rfl, h.gF, h.lt g h.gF, h.sub, h.dis, h.fr, fun j hj => ⟨es j, h.el j hj⟩⟩⟩
theorem SL.upd {F : List Nat} {g off : Nat} {G : Nat → List Nat} {es : Nat → List Value} {w w' : World} {l : List α} (h : SL c F g off G es w l) (j : Nat) (hj : j < l.length) (x' : α) (es' : List Value)
    (hsz : w.heap.size ≤ w'.heap.size) (hfr : ∀ i, w'.frozen? ⟨g, i, none⟩ = w.frozen? ⟨g, i, none⟩) (hcell : ∀ i, i < off + j * c.n ∨ off + j * c.n + c.n ≤ i → w'.cell? ⟨g, i, none⟩ = w.cell? ⟨g, i, none⟩)
    (hblk : ∀ k, k ∈ F → k ≠ g → k ∉ G j → w'.heap[k]? = w.heap[k]?) (hown : c.own (G j) w' x' es') (hc : ∀ i, i < c.n → w'.cell? ⟨g, off + j * c.n + i, none⟩ = es'[i]?) :
    SL c F g off G (fun q => if q = j then es' else es q) w' (l.set j x') := by
  refine ⟨h.gF, fun k hk => Nat.lt_of_lt_of_le (h.lt k hk) hsz, ?_, ?_, ?_, ?_⟩
  · simpa using h.sub
  · simpa using h.dis
  · intro i hi; rw [hfr]; exact h.fr i (by simpa using hi)
  · intro q hq
    have hq' : q < l.length := by simpa using hq
    by_cases he : q = j
    · subst he
      simp only [List.getElem_set_self, if_true]
      exact ⟨hown, hc⟩
    · simp only [List.getElem_set_ne (Ne.symm he), if_neg he]
      obtain ⟨h1, h2⟩ := h.el q hq'
      refine ⟨c.keepO h1 (fun k hk => hblk k (h.sub q hq' k hk).1 (h.sub q hq' k hk).2 (h.dis q j hq' hj he k hk)), fun i hi => ?_⟩
      rw [hcell, h2 i hi]
      rcases Nat.lt_or_gt_of_ne he with hlt | hgt
      · left
        have : (q + 1) * c.n ≤ j * c.n := Nat.mul_le_mul_right _ hlt
        rw [Nat.succ_mul] at this
        omega
      · right
        have : (j + 1) * c.n ≤ q * c.n := Nat.mul_le_mul_right _ hgt
        rw [Nat.succ_mul] at this
        omega

/-- Marks in a list: each element marked from the count that is reached. -/
def markL (mk : Nat → α → α) (lv : α → Nat) : Nat → List α → List α
  | _, [] => []
  | k, x :: l => mk k x :: markL mk lv (k + lv x) l
/-- The leaves of a list. -/
def lvs (lv : α → Nat) (l : List α) : Nat := (l.map lv).sum
theorem markL_length (mk : Nat → α → α) (lv : α → Nat) (k : Nat) (l : List α) : (markL mk lv k l).length = l.length := by
  induction l generalizing k with
  | nil => rfl
  | cons x l ih => simp [markL, ih]
theorem lvs_drop (lv : α → Nat) (l : List α) (j : Nat) (hj : j < l.length) : lvs lv (l.drop j) = lv l[j] + lvs lv (l.drop (j + 1)) := by
  unfold lvs; rw [List.drop_eq_getElem_cons hj, List.map_cons, List.sum_cons]
theorem lvs_nil (lv : α → Nat) : lvs lv [] = 0 := rfl
theorem markL_drop (mk : Nat → α → α) (lv : α → Nat) (k : Nat) (l : List α) (j : Nat) (hj : j < l.length) : markL mk lv k (l.drop j) = mk k l[j] :: markL mk lv (k + lv l[j]) (l.drop (j + 1)) := by
  rw [List.drop_eq_getElem_cons hj]; rfl
theorem set_mid (dn r : List α) (x y : α) (j : Nat) (h : dn.length = j) : (dn ++ x :: r).set j y = (dn ++ [y]) ++ r := by
  subst h; simp
theorem get_mid (dn r : List α) (x : α) (j : Nat) (h : dn.length = j) (hj : j < (dn ++ x :: r).length) : (dn ++ x :: r)[j] = x := by
  subst h; simp

/-- Marks in a list of numbers. -/
def markI (k : Nat) (l : List Int) : List Int := markL (fun k _ => (k : Int)) (fun _ => 1) k l
theorem markI_length (k : Nat) (l : List Int) : (markI k l).length = l.length := markL_length _ _ _ _
theorem lvs_one (l : List Int) : lvs (fun _ => 1) l = l.length := by
  induction l with
  | nil => rfl
  | cons x l ih => unfold lvs at *; rw [List.map_cons, List.sum_cons, ih, List.length_cons]; omega
end Go.Proofs.Ytpcjhnbifgjleaa
namespace Go.Proofs.Ytpcjhnbifgjleaa
open Go.RowKit
set_option linter.unusedVariables false
set_option maxRecDepth 100000
theorem markI_get (k : Nat) (l : List Int) (j : Nat) (hj : j < (markI k l).length) : (markI k l)[j] = ((k + j : Nat) : Int) := by
  induction l generalizing k j with
  | nil => simp [markI, markL] at hj
  | cons x l ih =>
    cases j with
    | zero => simp [markI, markL]
    | succ j =>
      have := ih (k + 1) j (by simpa [markI, markL] using hj)
      simp only [markI, markL, List.getElem_cons_succ] at this ⊢
      rw [this]; omega
theorem cRel_own_nil {F : List Nat} {w : World} {x : Rel} {cs : List Value} (h : cRel.own F w x cs) : F = [] := by
  obtain ⟨_, _, F1, F2, _, ⟨_, rfl⟩, ⟨_, _, F3, F4, _, ⟨_, rfl⟩, ⟨_, rfl⟩, rfl, _⟩, rfl, _⟩ := h
  rfl
/-- Marks in a relation; in a list of relations. -/
def markR (k : Nat) (_ : Rel) : Rel := ⟨mT k, ((k + 1 : Nat) : Int), ((k + 2 : Nat) : Int)⟩
def markRs (k : Nat) (l : List Rel) : List Rel := markL markR (fun _ => 3) k l
theorem lvs_three (l : List Rel) : lvs (fun _ => 3) l = l.length * 3 := by
  induction l with
  | nil => rfl
  | cons x l ih => unfold lvs at *; rw [List.map_cons, List.sum_cons, ih, List.length_cons]; omega
theorem inR_nat {k : Nat} (h : k ≤ 4611686018427387904) : inR (k : Int) := by unfold inR; omega
end Go.Proofs.Ytpcjhnbifgjleaa
namespace Go.Proofs.Ytpcjhnbifgjleaa
open Go.RowKit
set_option linter.unusedVariables false
set_option maxRecDepth 100000
theorem markRs_get (k : Nat) (l : List Rel) (j : Nat) (hj : j < (markRs k l).length) : (markRs k l)[j] = ⟨mT (k + j * 3), ((k + j * 3 + 1 : Nat) : Int), ((k + j * 3 + 2 : Nat) : Int)⟩ := by
  induction l generalizing k j with
  | nil => simp [markRs, markL] at hj
  | cons x l ih =>
    cases j with
    | zero => simp [markRs, markL, markR]
    | succ j =>
      have := ih (k + 3) j (by simpa [markRs, markL] using hj)
      simp only [markRs, markL, List.getElem_cons_succ] at this ⊢
      rw [this, show k + 3 + j * 3 = k + (j + 1) * 3 by omega]
end Go.Proofs.Ytpcjhnbifgjleaa
