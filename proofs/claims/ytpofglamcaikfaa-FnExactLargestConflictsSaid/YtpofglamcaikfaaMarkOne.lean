/- MarkOne: MarkA MarkB MarkC MarkD. -/
import Derived.Test.YtpofglamcaikfaaTyOne
import Derived.Lib.ItoaLen
import Derived.Test.YtpofglamcaikfaaTyTwo
import Derived.Test.YtpofglamcaikfaaGrow
/- The laws' marks: numbers written into every place of a datum, and read again. The text of a mark, marks in a slice of numbers. -/
namespace Go.Proofs.Ytpofglamcaikfaa
open Go.RowKit
set_option linter.unusedVariables false
set_option maxRecDepth 100000

/-- From w to w' nothing has turned but in the blocks F, and what is new. -/
structure Only (F : List Nat) (w w' : World) : Prop where
  os : w'.os = w.os
  tape : w'.tape = w.tape
  output : w'.output = w.output
  size : w.heap.size ≤ w'.heap.size
  block : ∀ k, k < w.heap.size → k ∉ F → w'.heap[k]? = w.heap[k]?
theorem Only.refl (F : List Nat) (w : World) : Only F w w := ⟨rfl, rfl, rfl, Nat.le_refl _, fun _ _ _ => rfl⟩
theorem Only.trans {F G H : List Nat} {a b c : World} (h : Only F a b) (k : Only G b c) (hF : ∀ x, x ∈ F → x ∈ H) (hG : ∀ x, x ∈ G → x ∈ H) : Only H a c :=
  ⟨k.os.trans h.os, k.tape.trans h.tape, k.output.trans h.output, Nat.le_trans h.size k.size, fun i hi hn => (k.block i (Nat.lt_of_lt_of_le hi h.size) (fun x => hn (hG i x))).trans (h.block i hi (fun x => hn (hF i x)))⟩
theorem Only.of_below {F : List Nat} {w w' : World} (h : Below w.heap.size w w') : Only F w w' := ⟨h.os, h.tape, h.output, h.size, fun k hk _ => h.block k hk⟩
theorem Only.setCell {F : List Nat} {a w : World} (h : Only F a w) {p : Addr} (hp : p.block ∈ F) (u : Value) : Only F a (w.setCell p u) :=
  h.trans (G := [p.block]) (H := F) ⟨rfl, rfl, rfl, by simp [World.setCell], fun k hk hn => Below.heap_setCell _ _ _ _ (by simpa using hn)⟩ (fun _ h => h) (fun x hx => by simp at hx; exact hx ▸ hp)
theorem Only.below {F : List Nat} {w w' : World} {B : Nat} (h : Only F w w') (hF : ∀ k, k ∈ F → B ≤ k) (hB : B ≤ w.heap.size) : Below B w w' :=
  ⟨h.os, h.tape, h.output, h.size, fun k hk => h.block k (by omega) (fun hm => by have := hF k hm; omega)⟩
theorem Cod.keepOnly {α : Type} {c : Cod α} {F G : List Nat} {w w' : World} {x : α} {cs : List Value} (h : c.own F w x cs) (ho : Only G w w') (hs : ∀ k, k ∈ F → k < w.heap.size) (hd : ∀ k, k ∈ F → k ∉ G) : c.own F w' x cs :=
  c.keepO h (fun k hk => ho.block k (hs k hk) (hd k hk))

/-- A step that turns the blocks F alone, seen from what stands elsewhere. -/
theorem OwnIn.only {α : Type} {c : Cod α} {lo hi lo' hi' : Nat} {F : List Nat} {w w' : World} {x : α} {cs : List Value} (h : OwnIn c lo hi w x cs) (ho : Only F w w') (hF : ∀ k, k ∈ F → lo' ≤ k ∧ k < hi') (hs : hi ≤ w.heap.size) (hd : hi ≤ lo' ∨ hi' ≤ lo) : OwnIn c lo hi w' x cs := by
  obtain ⟨G, h1, h2⟩ := h
  exact ⟨G, c.keepO h1 (fun k hk => ho.block k (by have := (h2 k hk).2; omega) (fun hm => by have := h2 k hk; have := hF k hm; omega)), h2⟩
theorem cell_only {lo' hi' : Nat} {F : List Nat} {w w' : World} {p : Addr} {v : Value} (h : w.cell? p = some v) (ho : Only F w w') (hF : ∀ k, k ∈ F → lo' ≤ k ∧ k < hi') (hd : p.block < lo' ∨ hi' ≤ p.block) : w'.cell? p = some v :=
  (World.cell?_of_block (w := w) (ho.block p.block (World.block_lt_of_cell? w _ h) (fun hm => by have := hF _ hm; omega))).trans h
theorem OwnIn.at {α : Type} {c : Cod α} {lo hi : Nat} {w : World} {x : α} {cs : List Value} (h : OwnIn c lo hi w x cs) (hs : hi ≤ w.heap.size) : At c w x cs := by
  obtain ⟨G, h1, h2⟩ := h
  exact c.ofO h1 (fun k hk => by have := (h2 k hk).2; omega)
theorem OwnIn.next {α : Type} {c : Cod α} {lo hi : Nat} {w W w' : World} {x : α} {cs : List Value} (h : OwnIn c lo hi w x cs) (hs : hi ≤ w.heap.size) (hb : Below W.heap.size W w') (hW : W.heap = w.heap := by rfl) : OwnIn c lo hi w' x cs := by
  obtain ⟨G, h1, h2⟩ := h
  exact ⟨G, c.keepO h1 (fun k hk => by rw [← hW]; exact hb.block k (by rw [hW]; have := (h2 k hk).2; omega)), h2⟩
theorem decDigits_snoc' {u : Nat} (h : ¬ u < 10) : Lib.decDigits u = Lib.decDigits (u / 10) ++ [UInt8.ofNat (48 + u % 10)] := by
  rw [Lib.decDigits, dif_neg h]
/-- The digits of what is left, ahead of those in hand. -/
def mpre (q : Nat) (acc : List UInt8) : List UInt8 := if q = 0 then acc else Lib.decDigits q ++ acc
theorem mpre_step {q : Nat} (h : q ≠ 0) (acc : List UInt8) : mpre q acc = mpre (q / 10) (UInt8.ofNat (48 + q % 10) :: acc) := by
  unfold mpre
  rw [if_neg h]
  by_cases hq : q < 10
  · rw [if_pos (by omega), Lib.decDigits_one hq, Nat.mod_eq_of_lt hq]; rfl
  · rw [if_neg (by omega), decDigits_snoc' hq, List.append_assoc]; rfl
theorem mdig_le (u : Nat) (h : u < 18446744073709551616) : (Lib.decDigits u).length ≤ 20 := by rw [Lib.decDigits_length]; exact Lib.nDigits_le20 u h
theorem mpre_len {q m : Nat} {acc : List UInt8} (H : mpre q acc = Lib.decDigits m) (h : m < 18446744073709551616) : acc.length ≤ 20 := by
  have h1 := mdig_le m h
  rw [← H] at h1
  unfold mpre at h1
  split at h1
  · exact h1
  · rw [List.length_append] at h1; omega
/-- The text of mark m. -/
def mT (m : Nat) : ByteArray := str (109 :: Lib.decDigits m)
theorem mT_size (m : Nat) (h : m < 18446744073709551616) : (mT m).size ≤ 21 := by unfold mT; rw [str_size, List.length_cons]; have := mdig_le m h; omega
set_option maxHeartbeats 800000 in
theorem markText_c (m : Nat) (h0 : 0 < m) (hm : (m : Int) ≤ 4611686018427387904) (w : World) :
    Calls Try.prog 33 #[.int .i64 m] w fun e w' => e = .returned (.string (mT m)) ∧ Below w.heap.size w w' := by
  have hm2 : m < 18446744073709551616 := by omega
  have Hm2 := Lib.hid hm2
  have hle : decide ((m : Int) ≤ 0) = false := decide_eq_false (by omega)
  clear hm2
  go_enter Try.func33, Try.ntmps33
  go_wp2
  go_loopw [0, 3] (fun v o wr => ∃ (q : Nat) (acc : List UInt8), v = .int .i64 q ∧ o = .string (str acc) ∧ q ≤ m ∧ Hid (mpre q acc = Lib.decDigits m) ∧ Below w.heap.size w wr) (fun v _ _ => (intOf v).toNat)
  case atStart => exact ⟨m, [], rfl, rfl, Nat.le_refl _, show _ = _ by rw [mpre, if_neg (by omega), List.append_nil], Below.refl _ _⟩
  case round =>
    obtain ⟨q, acc, rfl, rfl, hq, Hq, hb⟩ := hrel
    by_cases hq0 : q = 0
    · have hE : decide ((0 : Int) < (q : Int)) = false := decide_eq_false (by omega)
      have hE2 : decide (0 < q) = false := decide_eq_false (by omega)
      have hacc : acc = Lib.decDigits m := by rw [← Hq.out, mpre, if_pos hq0]
      have hlen := mpre_len Hq.out Hm2.out
      have Hacc := Lib.hid hacc
      have hsz : (str [109]).size + (str acc).size < 100 := by simp only [str_size, List.length_singleton]; omega
      have hsz' : 1 + (str acc).size < 100 := by simp only [str_size]; omega
      clear hacc hq0
      go_wp2
      go_ret
      exact ⟨by unfold mT; rw [← Hacc.out, show 109 :: acc = [109] ++ acc from rfl, ← str_append]; rfl, hb⟩
    · have hE : decide ((0 : Int) < (q : Int)) = true := decide_eq_true (by omega)
      have hE2 : decide (0 < q) = true := decide_eq_true (by omega)
      have hlen := mpre_len Hq.out Hm2.out
      have hnext := mpre_step hq0 acc
      have Hn := Lib.hid hnext
      have H0 := Lib.hid hq0
      obtain ⟨u, hu⟩ : ∃ u, u = UInt8.ofNat (48 + q % 10) := ⟨_, rfl⟩
      rw [← hu] at Hn
      have hcv := fun ww => run_conv_byte (P := Try.prog) ww 71 9 5 Try.underlying71 Try.underlying5 Try.underlying9 (48 + (q : Int) % 10) u (by rw [hu]; simp; omega)
      have hd : 0 ≤ (q : Int) % 10 := by omega
      have hsz : (str [u]).size + (str acc).size < 100 := by simp only [str_size, List.length_singleton]; omega
      clear hnext hq0 hu
      go_wp2
      go_roundw
      case rel => exact ⟨q / 10, u :: acc, by go_num, by rw [str_append]; rfl, by omega, show _ = _ by rw [← Hn.out, Hq.out], hb.alloc hb.size _⟩
      case measure => simp [intOf]; have := H0.out; omega
end Go.Proofs.Ytpofglamcaikfaa

/- The laws' marks in slices: a slice of the call's own, element by element; marks in a slice of numbers. -/
namespace Go.Proofs.Ytpofglamcaikfaa
open Go.RowKit
set_option linter.unusedVariables false
set_option maxRecDepth 100000

/-- A slice of the call's own that is not empty, laid open: its block g, its first place off, each element's blocks G and cells es. -/
structure SL {α : Type} (c : Cod α) (F : List Nat) (g off : Nat) (G : Nat → List Nat) (es : Nat → List Value) (w : World) (l : List α) : Prop where
  gF : g ∈ F
  lt : ∀ k, k ∈ F → k < w.heap.size
  sub : ∀ j, j < l.length → ∀ k, k ∈ G j → k ∈ F ∧ k ≠ g
  dis : ∀ i j, i < l.length → j < l.length → i ≠ j → ∀ k, k ∈ G i → k ∉ G j
  fr : ∀ j, j < l.length * c.n → w.frozen? ⟨g, off + j, none⟩ = false
  el : ∀ j (hj : j < l.length), c.own (G j) w l[j] (es j) ∧ ∀ i, i < c.n → w.cell? ⟨g, off + j * c.n + i, none⟩ = (es j)[i]?
variable {α : Type} {c : Cod α}
theorem SL.of_own {F : List Nat} {w : World} {l : List α} {a : Option Addr} {n cap : Nat} (h : (cSlice c).own F w l [.slice a n cap]) (hl : ∀ k, k ∈ F → k < w.heap.size) (h0 : 0 < l.length) :
    ∃ g off G es, a = some ⟨g, off, none⟩ ∧ SL c F g off G es w l := by
  obtain ⟨a', cap', e, hm, h⟩ := h
  simp at e
  obtain ⟨rfl, rfl, rfl⟩ := e
  rcases h with ⟨rfl, _⟩ | ⟨g, off, G, rfl, h1, h2, h3, h4, h5, h6⟩
  · simp at h0
  · have hex : ∀ j, ∃ es, ∀ hj : j < l.length, c.own (G j) w l[j] es ∧ ∀ i, i < c.n → w.cell? ⟨g, off + j * c.n + i, none⟩ = es[i]? := by
      intro j
      by_cases hj : j < l.length
      · obtain ⟨es, h⟩ := h6 j hj
        exact ⟨es, fun _ => h⟩
      · exact ⟨[], fun h => absurd h hj⟩
    exact ⟨g, off, G, fun j => Classical.choose (hex j), rfl, ⟨h1, hl, h3, h4, h5, fun j hj => Classical.choose_spec (hex j) hj⟩⟩
theorem SL.own {F : List Nat} {g off : Nat} {G : Nat → List Nat} {es : Nat → List Value} {w : World} {l : List α} (h : SL c F g off G es w l) (cap : Nat) (hm : l.length ≤ maxLen ∧ l.length ≤ cap) :
    (cSlice c).own F w l [.slice (some ⟨g, off, none⟩) l.length cap] :=
  ⟨_, _, rfl, hm, .inr ⟨g, off, G, rfl, h.gF, h.lt g h.gF, h.sub, h.dis, h.fr, fun j hj => ⟨es j, h.el j hj⟩⟩⟩
theorem SL.upd {F : List Nat} {g off : Nat} {G : Nat → List Nat} {es : Nat → List Value} {w w' : World} {l : List α} (h : SL c F g off G es w l) (j : Nat) (hj : j < l.length) (x' : α) (es' : List Value)
    (hsz : w.heap.size ≤ w'.heap.size) (hfr : ∀ i, w'.frozen? ⟨g, i, none⟩ = w.frozen? ⟨g, i, none⟩) (hcell : ∀ i, i < off + j * c.n ∨ off + j * c.n + c.n ≤ i → w'.cell? ⟨g, i, none⟩ = w.cell? ⟨g, i, none⟩)
    (hblk : ∀ k, k ∈ F → k ≠ g → k ∉ G j → w'.heap[k]? = w.heap[k]?) (hown : c.own (G j) w' x' es') (hc : ∀ i, i < c.n → w'.cell? ⟨g, off + j * c.n + i, none⟩ = es'[i]?) :
    SL c F g off G (fun q => if q = j then es' else es q) w' (l.set j x') := by
  refine ⟨h.gF, fun k hk => Nat.lt_of_lt_of_le (h.lt k hk) hsz, ?_, ?_, ?_, ?_⟩
  · simpa using h.sub
  · simpa using h.dis
  · intro i hi; rw [hfr]; exact h.fr i (by simpa using hi)
  · intro q hq
    have hq' : q < l.length := by simpa using hq
    by_cases he : q = j
    · subst he
      simp only [List.getElem_set_self, if_true]
      exact ⟨hown, hc⟩
    · simp only [List.getElem_set_ne (Ne.symm he), if_neg he]
      obtain ⟨h1, h2⟩ := h.el q hq'
      refine ⟨c.keepO h1 (fun k hk => hblk k (h.sub q hq' k hk).1 (h.sub q hq' k hk).2 (h.dis q j hq' hj he k hk)), fun i hi => ?_⟩
      rw [hcell, h2 i hi]
      rcases Nat.lt_or_gt_of_ne he with hlt | hgt
      · left
        have : (q + 1) * c.n ≤ j * c.n := Nat.mul_le_mul_right _ hlt
        rw [Nat.succ_mul] at this
        omega
      · right
        have : (j + 1) * c.n ≤ q * c.n := Nat.mul_le_mul_right _ hgt
        rw [Nat.succ_mul] at this
        omega

/-- Marks in a list: each element marked from the count that is reached. -/
def markL (mk : Nat → α → α) (lv : α → Nat) : Nat → List α → List α
  | _, [] => []
  | k, x :: l => mk k x :: markL mk lv (k + lv x) l
/-- The leaves of a list. -/
def lvs (lv : α → Nat) (l : List α) : Nat := (l.map lv).sum
theorem markL_length (mk : Nat → α → α) (lv : α → Nat) (k : Nat) (l : List α) : (markL mk lv k l).length = l.length := by
  induction l generalizing k with
  | nil => rfl
  | cons x l ih => simp [markL, ih]
theorem lvs_drop (lv : α → Nat) (l : List α) (j : Nat) (hj : j < l.length) : lvs lv (l.drop j) = lv l[j] + lvs lv (l.drop (j + 1)) := by
  unfold lvs; rw [List.drop_eq_getElem_cons hj, List.map_cons, List.sum_cons]
theorem lvs_nil (lv : α → Nat) : lvs lv [] = 0 := rfl
theorem markL_drop (mk : Nat → α → α) (lv : α → Nat) (k : Nat) (l : List α) (j : Nat) (hj : j < l.length) : markL mk lv k (l.drop j) = mk k l[j] :: markL mk lv (k + lv l[j]) (l.drop (j + 1)) := by
  rw [List.drop_eq_getElem_cons hj]; rfl
theorem set_mid (dn r : List α) (x y : α) (j : Nat) (h : dn.length = j) : (dn ++ x :: r).set j y = (dn ++ [y]) ++ r := by
  subst h; simp
theorem get_mid (dn r : List α) (x : α) (j : Nat) (h : dn.length = j) (hj : j < (dn ++ x :: r).length) : (dn ++ x :: r)[j] = x := by
  subst h; simp

/-- Marks in a list of numbers. -/
def markI (k : Nat) (l : List Int) : List Int := markL (fun k _ => (k : Int)) (fun _ => 1) k l
theorem markI_length (k : Nat) (l : List Int) : (markI k l).length = l.length := markL_length _ _ _ _
theorem lvs_one (l : List Int) : lvs (fun _ => 1) l = l.length := by
  induction l with
  | nil => rfl
  | cons x l ih => unfold lvs at *; rw [List.map_cons, List.sum_cons, ih, List.length_cons]; omega
set_option maxHeartbeats 800000 in
theorem markIntS_c {F : List Nat} {a : Option Addr} {cap : Nat} {l : List Int} {k : Nat} {w : World} (hk : (k + l.length : Nat) ≤ 4611686018427387904) (hF : ∀ k, k ∈ F → k < w.heap.size) (h : (cSlice cInt).own F w l [.slice a l.length cap]) :
    Calls Try.prog 11 #[.slice a l.length cap, .int .i64 k] w fun e w' => e = .returned (.int .i64 ((k + l.length : Nat) : Int)) ∧ (cSlice cInt).own F w' (markI k l) [.slice a l.length cap] ∧ Only F w w' := by
  have hm := (own_slice_len h).1
  have Hcp := Lib.hid (own_slice_len h).2
  rcases Nat.eq_zero_or_pos l.length with h0 | h0
  · have hl := List.eq_nil_of_length_eq_zero h0
    subst hl
    have Ho := Lib.hid h
    clear h hm h0
    simp only [List.length_nil] at *
    go_enter Try.func11, Try.ntmps11
    go_wp2
    go_loopw [1, 5] (fun kv iv wr => kv = .int .i64 k ∧ iv = .int .i64 0 ∧ wr = w) (fun _ _ _ => 0)
    case atStart => exact ⟨rfl, rfl, rfl⟩
    case round =>
      obtain ⟨rfl, rfl, rfl⟩ := hrel
      go_wp2
      go_ret
      exact ⟨rfl, Ho.out, Only.refl _ _⟩
  · obtain ⟨g, off, G, es, rfl, hS⟩ := SL.of_own h hF h0
    clear h h0
    obtain ⟨n, hn⟩ : ∃ n : Nat, l.length = n := ⟨_, rfl⟩
    have Hn := Lib.hid hn
    rw [hn] at hk ⊢
    unfold maxLen at hm
    rw [hn] at hm
    clear hn
    generalize hM : markI k l = M
    have HM : Hid ([] ++ markL (fun k _ => (k : Int)) (fun _ => 1) k (l.drop 0) = M) := hM
    have HS : Hid (SL cInt F g off G es w ([] ++ l.drop 0)) := hS
    have HgF : Hid (g ∈ F) := hS.gF
    clear hM hS hF
    go_enter Try.func11, Try.ntmps11
    go_wp2
    go_loopw [1, 5] (fun kv iv wr => ∃ (j : Nat) (dn : List Int) (es : Nat → List Value), j ≤ n ∧ kv = .int .i64 ((k + j : Nat) : Int) ∧ iv = .int .i64 j ∧ Hid (dn.length = j) ∧ Hid (dn ++ markL (fun k _ => (k : Int)) (fun _ => 1) (k + j) (l.drop j) = M) ∧ Hid (SL cInt F g off G es wr (dn ++ l.drop j)) ∧ Only F w wr) (fun _ iv _ => n - (intOf iv).toNat)
    case atStart => exact ⟨0, [], es, by omega, by go_num, by go_num, rfl, HM, HS, Only.refl _ _⟩
    case round =>
      clear HM HS
      obtain ⟨j, dn, es, hj, rfl, rfl, Hd, HM, HS, ho⟩ := hrel
      by_cases hlt : j < n
      · have hjl : j < l.length := by rw [Hn.out]; exact hlt
        have hdl := List.drop_eq_getElem_cons hjl
        have hjl2 : j < (dn ++ l.drop j).length := by rw [List.length_append, List.length_drop, Hd.out]; omega
        have hel := HS.out.el j hjl2
        have hfr := HS.out.fr j (by show j < _ * 1; omega)
        obtain ⟨⟨⟨he, _⟩, hG⟩, hc⟩ := hel
        have hc0 : wr.cell? ⟨g, off + j, none⟩ = some (.int .i64 (dn ++ l.drop j)[j]) := by
          have := hc 0 (by decide)
          rw [he] at this
          simpa [cInt] using this
        have Hc := Lib.hid hc0
        have HG := Lib.hid hG
        generalize (dn ++ l.drop j)[j] = z at hc0
        clear hc he hG
        go_wp2
        go_roundw
        case rel =>
          have hw : (wr.setCell ⟨g, off + j, none⟩ (.int .i64 ((k + j : Nat) : Int))).cell? ⟨g, off + j, none⟩ = some (.int .i64 ((k + j : Nat) : Int)) := World.cell?_setCell_same _ _ _ hc0
          have hu := HS.out.upd (w' := wr.setCell ⟨g, off + j, none⟩ (.int .i64 ((k + j : Nat) : Int))) j hjl2 ((k + j : Nat) : Int) [.int .i64 ((k + j : Nat) : Int)] (by simp [World.setCell]) (fun i => World.frozen?_setCell _ _ _ _)
            (fun i hi => World.cell?_setCell_other _ _ _ _ (by intro e; simp at e; have : cInt.n = 1 := rfl; rw [this] at hi; omega))
            (fun kk hk1 hk2 _ => heap_setCell_other _ _ _ _ hk2) ⟨⟨rfl, by unfold inR; omega⟩, HG.out⟩ (by
              intro i hi
              have : cInt.n = 1 := rfl
              rw [this] at hi
              obtain rfl : i = 0 := by omega
              simpa [this] using hw)
          rw [hdl, set_mid dn _ _ _ j Hd.out] at hu
          have hM2 := HM.out
          rw [markL_drop _ _ _ _ _ hjl] at hM2
          refine ⟨j + 1, dn ++ [((k + j : Nat) : Int)], _, by omega, by go_num, by go_num, show _ = _ by simp [Hd.out], show _ = _ by rw [← hM2]; simp [Nat.add_assoc], hu, ho.setCell HgF.out _⟩
        case measure => simp [intOf]; omega
      · obtain rfl : j = n := by omega
        have hd : l.drop j = [] := List.drop_eq_nil_of_le (by rw [Hn.out]; exact Nat.le_refl _)
        have hM2 := HM.out
        have hS2 := HS.out
        rw [hd] at hM2 hS2
        simp only [markL, List.append_nil] at hM2 hS2
        subst hM2
        have hown := hS2.own cap (by rw [Hd.out]; have hcp := Hcp.out; have hnn := Hn.out; unfold maxLen; exact ⟨by omega, by omega⟩)
        rw [Hd.out] at hown
        have Hown := Lib.hid hown
        clear hown hS2 hd
        go_wp2
        go_ret
        exact ⟨rfl, Hown.out, ho⟩
end Go.Proofs.Ytpofglamcaikfaa

/- The laws' marks, read again in slices of numbers; marks in relations. -/
namespace Go.Proofs.Ytpofglamcaikfaa
open Go.RowKit
set_option linter.unusedVariables false
set_option maxRecDepth 100000

theorem markI_get (k : Nat) (l : List Int) (j : Nat) (hj : j < (markI k l).length) : (markI k l)[j] = ((k + j : Nat) : Int) := by
  induction l generalizing k j with
  | nil => simp [markI, markL] at hj
  | cons x l ih =>
    cases j with
    | zero => simp [markI, markL]
    | succ j =>
      have := ih (k + 1) j (by simpa [markI, markL] using hj)
      simp only [markI, markL, List.getElem_cons_succ] at this ⊢
      rw [this]; omega
theorem heldIntS_c {a : Option Addr} {cap : Nat} {l : List Int} {k : Nat} {w : World} (hk : (k + l.length : Nat) ≤ 4611686018427387904) (hM : ∀ j (hj : j < l.length), l[j] = ((k + j : Nat) : Int)) (h : At (cSlice cInt) w l [.slice a l.length cap]) :
    Calls Try.prog 12 #[.slice a l.length cap, .int .i64 k] w fun e w' => e = .returned (.int .i64 ((k + l.length : Nat) : Int)) ∧ Below w.heap.size w w' := by
  have hm := (slice_len h).2
  unfold maxLen at hm
  obtain ⟨n, hn⟩ : ∃ n : Nat, l.length = n := ⟨_, rfl⟩
  have Hr : Hid (∀ w' : World, Below w.heap.size w w' → ∀ j (hj : j < l.length), _) := fun w' hb j hj => ints_at (Cod.ok_below h hb) j hj
  have HM := Lib.hid hM
  have Hn := Lib.hid hn
  rw [hn] at hk hm ⊢
  clear hn h hM
  go_enter Try.func12, Try.ntmps12
  go_wp2
  go_loopw [1, 5] (fun kv iv wr => ∃ j : Nat, j ≤ n ∧ kv = .int .i64 ((k + j : Nat) : Int) ∧ iv = .int .i64 j ∧ Below w.heap.size w wr) (fun _ iv _ => n - (intOf iv).toNat)
  case atStart => exact ⟨0, by omega, by go_num, by go_num, Below.refl _ _⟩
  case round =>
    obtain ⟨j, hj, rfl, rfl, hb⟩ := hrel
    by_cases hlt : j < n
    · have hjl : j < l.length := by rw [Hn.out]; exact hlt
      obtain ⟨b, off, rfl, hbB, c0⟩ := Hr.out _ hb j hjl
      rw [HM.out j hjl] at c0
      have hne : (((k + j : Nat) : Int) != ((k + j : Nat) : Int)) = false := bne_self_eq_false _
      go_wp2
      go_roundw
      case rel => exact ⟨j + 1, by omega, by go_num, by go_num, hb⟩
      case measure => simp [intOf]; omega
    · obtain rfl : j = n := by omega
      go_wp2
      go_ret
      exact ⟨rfl, hb⟩

theorem cRel_own_nil {F : List Nat} {w : World} {x : Rel} {cs : List Value} (h : cRel.own F w x cs) : F = [] := by
  obtain ⟨_, _, F1, F2, _, ⟨_, rfl⟩, ⟨_, _, F3, F4, _, ⟨_, rfl⟩, ⟨_, rfl⟩, rfl, _⟩, rfl, _⟩ := h
  rfl
/-- Marks in a relation; in a list of relations. -/
def markR (k : Nat) (_ : Rel) : Rel := ⟨mT k, ((k + 1 : Nat) : Int), ((k + 2 : Nat) : Int)⟩
def markRs (k : Nat) (l : List Rel) : List Rel := markL markR (fun _ => 3) k l
theorem lvs_three (l : List Rel) : lvs (fun _ => 3) l = l.length * 3 := by
  induction l with
  | nil => rfl
  | cons x l ih => unfold lvs at *; rw [List.map_cons, List.sum_cons, ih, List.length_cons]; omega
theorem inR_nat {k : Nat} (h : k ≤ 4611686018427387904) : inR (k : Int) := by unfold inR; omega
set_option maxHeartbeats 1600000 in
theorem markRelationS_c {F : List Nat} {a : Option Addr} {cap : Nat} {l : List Rel} {k : Nat} {w : World} (h1 : 1 ≤ k) (hk : (k + l.length * 3 : Nat) ≤ 4611686018427387900) (hF : ∀ k, k ∈ F → k < w.heap.size) (h : (cSlice cRel).own F w l [.slice a l.length cap]) :
    Calls Try.prog 21 #[.slice a l.length cap, .int .i64 k] w fun e w' => e = .returned (.int .i64 ((k + l.length * 3 : Nat) : Int)) ∧ (cSlice cRel).own F w' (markRs k l) [.slice a l.length cap] ∧ Only F w w' := by
  have hm := (own_slice_len h).1
  have Hcp := Lib.hid (own_slice_len h).2
  rcases Nat.eq_zero_or_pos l.length with h0 | h0
  · have hl := List.eq_nil_of_length_eq_zero h0
    subst hl
    have Ho := Lib.hid h
    clear h hm h0
    simp only [List.length_nil] at *
    go_enter Try.func21, Try.ntmps21
    go_wp2
    go_loopw [1, 5] (fun kv iv wr => kv = .int .i64 k ∧ iv = .int .i64 0 ∧ wr = w) (fun _ _ _ => 0)
    case atStart => exact ⟨rfl, rfl, rfl⟩
    case round =>
      obtain ⟨rfl, rfl, rfl⟩ := hrel
      go_wp2
      go_ret
      exact ⟨rfl, Ho.out, Only.refl _ _⟩
  · obtain ⟨g, off, G, es, rfl, hS⟩ := SL.of_own h hF h0
    clear h h0
    obtain ⟨n, hn⟩ : ∃ n : Nat, l.length = n := ⟨_, rfl⟩
    have Hn := Lib.hid hn
    rw [hn] at hk ⊢
    unfold maxLen at hm
    rw [hn] at hm
    clear hn
    generalize hM : markRs k l = M
    have HM : Hid ([] ++ markL markR (fun _ => 3) k (l.drop 0) = M) := hM
    have HS : Hid (SL cRel F g off G es w ([] ++ l.drop 0)) := hS
    have HgF : Hid (g ∈ F) := hS.gF
    clear hM hS hF
    go_enter Try.func21, Try.ntmps21
    go_wp2
    go_loopw [1, 5] (fun kv iv wr => ∃ (j : Nat) (dn : List Rel) (es : Nat → List Value), j ≤ n ∧ kv = .int .i64 ((k + j * 3 : Nat) : Int) ∧ iv = .int .i64 j ∧ Hid (dn.length = j) ∧ Hid (dn ++ markL markR (fun _ => 3) (k + j * 3) (l.drop j) = M) ∧ Hid (SL cRel F g off G es wr (dn ++ l.drop j)) ∧ Only F w wr) (fun _ iv _ => n - (intOf iv).toNat)
    case atStart => exact ⟨0, [], es, by omega, by go_num, by go_num, rfl, HM, HS, Only.refl _ _⟩
    case round =>
      clear HM HS
      obtain ⟨j, dn, es, hj, rfl, rfl, Hd, HM, HS, ho⟩ := hrel
      by_cases hlt : j < n
      · have hjl : j < l.length := by rw [Hn.out]; exact hlt
        have hdl := List.drop_eq_getElem_cons hjl
        have hjl2 : j < (dn ++ l.drop j).length := by rw [List.length_append, List.length_drop, Hd.out]; omega
        have hel := HS.out.el j hjl2
        have hfr : ∀ i, i < 3 → wr.frozen? ⟨g, off + j * 3 + i, none⟩ = false := by
          intro i hi
          have := HS.out.fr (j * 3 + i) (by show _ < _ * 3; omega)
          rw [← Nat.add_assoc] at this
          exact this
        obtain ⟨hG, hc⟩ := hel
        have he := (cRel_inv (cRel.ofO (B := F.sum + g + 1) hG (fun kk hkk => by have := le_sum (HS.out.sub j hjl2 kk hkk).1; omega))).1
        rw [he] at hc hG
        generalize (dn ++ l.drop j)[j] = z at hc hG
        have c0 : wr.cell? ⟨g, off + j * 3, none⟩ = some (.string z.name) := by exact hc 0 (by decide)
        have c1 : wr.cell? ⟨g, off + j * 3 + 1, none⟩ = some (.int .i64 z.arity) := by exact hc 1 (by decide)
        have c2 : wr.cell? ⟨g, off + j * 3 + 2, none⟩ = some (.int .i64 z.key) := by exact hc 2 (by decide)
        have f0 := hfr 0 (by decide)
        have f1 := hfr 1 (by decide)
        have f2 := hfr 2 (by decide)
        have hgw := World.block_lt_of_cell? wr _ c0
        have HG := Lib.hid hG
        clear hc he hG hfr
        go_wp2_with fail
        refine (markText_c (k + j * 3) (by omega) (by omega) _).mono ?_
        rintro e w1 ⟨rfl, hb1⟩
        have d0 := (hb1.cell (p := ⟨g, off + j * 3, none⟩) hgw).trans c0
        have d1 := (hb1.cell (p := ⟨g, off + j * 3 + 1, none⟩) hgw).trans c1
        have d2 := (hb1.cell (p := ⟨g, off + j * 3 + 2, none⟩) hgw).trans c2
        have g0 := (hb1.frozen (p := ⟨g, off + j * 3, none⟩) hgw).trans f0
        have g1 := (hb1.frozen (p := ⟨g, off + j * 3 + 1, none⟩) hgw).trans f1
        have g2 := (hb1.frozen (p := ⟨g, off + j * 3 + 2, none⟩) hgw).trans f2
        clear c0 c1 c2 f0 f1 f2
        go_wp2
        go_roundw
        case rel =>
          have hGj : G j = [] := cRel_own_nil HG.out
          have e0 := World.cell?_setCell_same _ _ (.string (mT (k + j * 3))) d0
          have e1 := World.cell?_setCell_same _ _ (.int .i64 ((k + j * 3 + 1 : Nat) : Int)) ((World.cell?_setCell_other w1 ⟨g, off + j * 3, none⟩ ⟨g, off + j * 3 + 1, none⟩ (.string (mT (k + j * 3))) (by simp)).trans d1)
          have e2 := World.cell?_setCell_same _ _ (.int .i64 ((k + j * 3 + 2 : Nat) : Int)) ((World.cell?_setCell_other _ ⟨g, off + j * 3 + 1, none⟩ ⟨g, off + j * 3 + 2, none⟩ (.int .i64 ((k + j * 3 + 1 : Nat) : Int)) (by simp)).trans ((World.cell?_setCell_other w1 ⟨g, off + j * 3, none⟩ ⟨g, off + j * 3 + 2, none⟩ (.string (mT (k + j * 3))) (by simp)).trans d2))
          have hu := HS.out.upd (w' := ((w1.setCell ⟨g, off + j * 3, none⟩ (.string (mT (k + j * 3)))).setCell ⟨g, off + j * 3 + 1, none⟩ (.int .i64 ((k + j * 3 + 1 : Nat) : Int))).setCell ⟨g, off + j * 3 + 2, none⟩ (.int .i64 ((k + j * 3 + 2 : Nat) : Int))) j hjl2
            (markR (k + j * 3) z) [.string (mT (k + j * 3)), .int .i64 ((k + j * 3 + 1 : Nat) : Int), .int .i64 ((k + j * 3 + 2 : Nat) : Int)] (by simp only [World.setCell, Array.size_modify]; exact hb1.size)
            (fun i => by rw [World.frozen?_setCell, World.frozen?_setCell, World.frozen?_setCell]; exact hb1.frozen hgw)
            (fun i hi => by
              have hn3 : cRel.n = 3 := rfl
              rw [hn3] at hi
              rw [World.cell?_setCell_other _ _ _ _ (by intro e; simp at e <;> omega), World.cell?_setCell_other _ _ _ _ (by intro e; simp at e <;> omega), World.cell?_setCell_other _ _ _ _ (by intro e; simp at e <;> omega)]
              exact hb1.cell hgw)
            (fun kk hk1 hk2 _ => by
              rw [heap_setCell_other _ _ _ _ hk2, heap_setCell_other _ _ _ _ hk2, heap_setCell_other _ _ _ _ hk2]
              exact hb1.block kk (HS.out.lt kk hk1))
            (by rw [hGj]; exact cRel_mkO (by show (mT _).size ≤ _; have := mT_size (k + j * 3) (by omega); unfold maxLen; omega) (inR_nat (by omega)) (inR_nat (by omega)))
            (by
              have hn3 : cRel.n = 3 := rfl
              rw [hn3]
              intro i hi
              match i, hi with
              | 0, _ => exact (World.cell?_setCell_other _ _ _ _ (by simp)).trans ((World.cell?_setCell_other _ _ _ _ (by simp)).trans e0)
              | 1, _ => exact (World.cell?_setCell_other _ _ _ _ (by simp)).trans e1
              | 2, _ => exact e2)
          rw [hdl, set_mid dn _ _ _ j Hd.out] at hu
          have hM2 := HM.out
          rw [markL_drop _ _ _ _ _ hjl] at hM2
          obtain ⟨es2, hu⟩ : ∃ es2, SL cRel F g off G es2 _ _ := ⟨_, hu⟩
          refine ⟨j + 1, dn ++ [markR (k + j * 3) z], es2, by omega, by go_num, by go_num, show _ = _ by simp [Hd.out], show _ = _ by rw [← hM2, show k + (j + 1) * 3 = k + j * 3 + 3 by omega]; simp [markR], ?_, Only.setCell (p := ⟨g, off + j * 3 + 2, none⟩) (Only.setCell (p := ⟨g, off + j * 3 + 1, none⟩) (Only.setCell (p := ⟨g, off + j * 3, none⟩) (Only.trans (H := F) ho (Only.of_below (F := F) hb1) (fun _ h => h) (fun _ h => h)) HgF.out _) HgF.out _) HgF.out _⟩
          exact hu
        case measure => simp [intOf]; omega
      · obtain rfl : j = n := by omega
        have hd : l.drop j = [] := List.drop_eq_nil_of_le (by rw [Hn.out]; exact Nat.le_refl _)
        have hM2 := HM.out
        have hS2 := HS.out
        rw [hd] at hM2 hS2
        simp only [markL, List.append_nil] at hM2 hS2
        subst hM2
        have hown := hS2.own cap (by rw [Hd.out]; have hcp := Hcp.out; have hnn := Hn.out; unfold maxLen; exact ⟨by omega, by omega⟩)
        rw [Hd.out] at hown
        have Hown := Lib.hid hown
        clear hown hS2 hd
        go_wp2
        go_ret
        exact ⟨rfl, Hown.out, ho⟩
end Go.Proofs.Ytpofglamcaikfaa

/- The laws' marks, read again in relations; marks in facts and in slices of slices of numbers. -/
namespace Go.Proofs.Ytpofglamcaikfaa
open Go.RowKit
set_option linter.unusedVariables false
set_option maxRecDepth 100000

theorem markRs_get (k : Nat) (l : List Rel) (j : Nat) (hj : j < (markRs k l).length) : (markRs k l)[j] = ⟨mT (k + j * 3), ((k + j * 3 + 1 : Nat) : Int), ((k + j * 3 + 2 : Nat) : Int)⟩ := by
  induction l generalizing k j with
  | nil => simp [markRs, markL] at hj
  | cons x l ih =>
    cases j with
    | zero => simp [markRs, markL, markR]
    | succ j =>
      have := ih (k + 3) j (by simpa [markRs, markL] using hj)
      simp only [markRs, markL, List.getElem_cons_succ] at this ⊢
      rw [this, show k + 3 + j * 3 = k + (j + 1) * 3 by omega]
end Go.Proofs.Ytpofglamcaikfaa
