/- RelOne: In RelSpec2 FactSpec RelImpl2 RelImpl3 FactImpl FactImpl2. -/
import Derived.Test.YtpcjhnbifgjleaaRows
import Derived.Test.YtpcjhnbifgjleaaCodOne
import Derived.WalkKit
import Derived.Test.YtpcjhnbifgjleaaTyTwo
import Derived.BigRegion
import Derived.Test.YtpcjhnbifgjleaaGrow
import Derived.Lib.Bytealg
import Derived.Test.YtpcjhnbifgjleaaShelf
/- Between two bounds: the model's test. -/
namespace Go.Proofs.Ytpcjhnbifgjleaa
open Go.RowKit
set_option linter.unusedVariables false
set_option maxRecDepth 100000

/-- Between two bounds. -/
def inB (n lo hi : Int) : Bool := decide (lo ≤ n) && decide (n ≤ hi)
end Go.Proofs.Ytpcjhnbifgjleaa
namespace Go.Proofs.Ytpcjhnbifgjleaa
open Go.RowKit
set_option linter.unusedVariables false
set_option maxRecDepth 100000
/-- One letter from a to z. -/
def validName (n : ByteArray) : Bool := if h : n.size = 1 then decide (97 ≤ n[0].toNat) && decide (n[0].toNat ≤ 122) else false
/-- A valid relation. -/
def validRel (r : Rel) : Bool := validName r.name && (inB r.arity 1 3 && inB r.key 0 r.arity)
theorem validName_one {n : ByteArray} (h : n.size = 1) : validName n = (decide (97 ≤ n[0].toNat) && decide (n[0].toNat ≤ 122)) := by unfold validName; rw [dif_pos h]
theorem validName_not {n : ByteArray} (h : n.size ≠ 1) : validName n = false := by unfold validName; rw [dif_neg h]
/-- The name before place k. -/
def prevOf (l : List Rel) : Nat → Option ByteArray
  | 0 => none
  | k + 1 => l[k]?.map Rel.name
/-- A name after the one before. -/
def okPrev : Option ByteArray → ByteArray → Bool
  | none, _ => true
  | some q, n => Op.bytesLess q.toList n.toList
/-- Valid relations, ascending from a name on. -/
def ascFrom : Option ByteArray → List Rel → Bool
  | _, [] => true
  | p, r :: l => validRel r && (okPrev p r.name && ascFrom (some r.name) l)
def validRels (l : List Rel) : Bool := ascFrom none l && decide (l.length ≤ 4)
theorem ascFrom_step (l : List Rel) (k : Nat) (hk : k < l.length) : ascFrom (prevOf l k) (l.drop k) = (validRel l[k] && (okPrev (prevOf l k) l[k].name && ascFrom (prevOf l (k + 1)) (l.drop (k + 1)))) := by
  rw [List.drop_eq_getElem_cons hk]
  simp [ascFrom, prevOf, hk]
theorem okPrev_succ (l : List Rel) (k : Nat) (hk : k < l.length) (n : ByteArray) : okPrev (prevOf l (k + 1)) n = Op.bytesLess l[k].name.toList n.toList := by
  simp [prevOf, hk, okPrev]

/-- The place of the first relation of a name, counted from i, or -1. -/
def idxFrom : List Rel → ByteArray → Int → Int
  | [], _, _ => -1
  | r :: l, s, i => if r.name = s then i else idxFrom l s (i + 1)
def relIdx (l : List Rel) (s : ByteArray) : Int := idxFrom l s 0
theorem idxFrom_step (l : List Rel) (s : ByteArray) (k : Nat) (hk : k < l.length) (i : Int) : idxFrom (l.drop k) s i = if l[k].name = s then i else idxFrom (l.drop (k + 1)) s (i + 1) := by
  rw [List.drop_eq_getElem_cons hk]; rfl
theorem name_beq (n s : ByteArray) : (n.toList == s.toList) = decide (n = s) := by
  by_cases h : n = s
  · subst h; simp
  · rw [decide_eq_false h, Lib.toList_data, Lib.toList_data]
    simp only [beq_eq_false_iff_ne, ne_eq]
    intro e; exact h (by rw [str_of n, str_of s, e])
end Go.Proofs.Ytpcjhnbifgjleaa
namespace Go.Proofs.Ytpcjhnbifgjleaa
open Go.RowKit
set_option linter.unusedVariables false
set_option maxRecDepth 100000
/-- Two lists of numbers compared: by the first place at which they differ, then by their lengths. -/
def cmpL : List Int → List Int → Int
  | [], [] => 0
  | [], _ :: _ => -1
  | _ :: _, [] => 1
  | a :: l, b :: m => if a < b then -1 else if b < a then 1 else cmpL l m
theorem cmpL_step (l m : List Int) (k : Nat) (h1 : k < l.length) (h2 : k < m.length) : cmpL (l.drop k) (m.drop k) = if l[k] < m[k] then -1 else if m[k] < l[k] then 1 else cmpL (l.drop (k + 1)) (m.drop (k + 1)) := by
  rw [List.drop_eq_getElem_cons h1, List.drop_eq_getElem_cons h2]; rfl
theorem cmpL_end (l m : List Int) (k : Nat) (h1 : k ≤ l.length) (h2 : k ≤ m.length) (h : ¬ (k < l.length ∧ k < m.length)) : cmpL (l.drop k) (m.drop k) = if l.length < m.length then -1 else if m.length < l.length then 1 else 0 := by
  by_cases hl : k < l.length
  · have hm : k = m.length := by omega
    subst hm
    rw [List.drop_eq_getElem_cons hl, List.drop_length]
    rw [if_neg (by omega), if_pos hl]; rfl
  · have hl2 : k = l.length := by omega
    subst hl2
    rw [List.drop_length]
    by_cases hm : l.length < m.length
    · rw [List.drop_eq_getElem_cons hm, if_pos hm]; rfl
    · have : m.drop l.length = [] := List.drop_eq_nil_of_le (by omega)
      rw [this, if_neg hm, if_neg (by omega)]; rfl
set_option maxHeartbeats 800000 in
theorem specl3Ints_c {a a' : Option Addr} {cap cap' : Nat} {l m : List Int} {w : World} (h : At (cSlice cInt) w l [.slice a l.length cap]) (h' : At (cSlice cInt) w m [.slice a' m.length cap']) :
    Calls Try.prog 29 #[.slice a l.length cap, .slice a' m.length cap'] w fun e w' => e = .returned (.int .i64 (cmpL l m)) ∧ Below w.heap.size w w' := by
  have hm := (slice_len h).2
  have hm' := (slice_len h').2
  unfold maxLen at hm hm'
  have Hr : Hid (∀ w' : World, Below w.heap.size w w' → ∀ j (hj : j < l.length), _) := fun w' hb j hj => ints_at (Cod.ok_below h hb) j hj
  have Hr' : Hid (∀ w' : World, Below w.heap.size w w' → ∀ j (hj : j < m.length), _) := fun w' hb j hj => ints_at (Cod.ok_below h' hb) j hj
  clear h h'
  obtain ⟨n, hn⟩ : ∃ n : Nat, l.length = n := ⟨_, rfl⟩
  obtain ⟨n', hn'⟩ : ∃ n : Nat, m.length = n := ⟨_, rfl⟩
  have Hn := Lib.hid hn
  have Hn' := Lib.hid hn'
  rw [hn] at hm ⊢
  rw [hn'] at hm' ⊢
  clear hn hn'
  generalize hR : cmpL l m = R
  have HR : Hid (cmpL (l.drop 0) (m.drop 0) = R) := hR
  clear hR
  go_enter Try.func29, Try.ntmps29
  go_wp2
  go_loopw [5] (fun iv wr => ∃ k : Nat, k ≤ n ∧ k ≤ n' ∧ iv = .int .i64 k ∧ Hid (cmpL (l.drop k) (m.drop k) = R) ∧ Below w.heap.size w wr) (fun iv _ => n - (intOf iv).toNat)
  case atStart => exact ⟨0, by omega, by omega, by go_num, HR, Below.refl _ _⟩
  case round =>
    clear HR
    obtain ⟨k, hk, hk', rfl, Hq, hb⟩ := hrel
    by_cases hlt : k < n ∧ k < n'
    · obtain ⟨h1, h2⟩ := hlt
      have hkl : k < l.length := by rw [Hn.out]; exact h1
      have hkm : k < m.length := by rw [Hn'.out]; exact h2
      have Hst := Lib.hid (Hq.out.symm.trans (cmpL_step l m k hkl hkm))
      obtain ⟨b, off, rfl, hbB, c0⟩ := Hr.out _ hb k hkl
      obtain ⟨b', off', rfl, hbB', c0'⟩ := Hr'.out _ hb k hkm
      have hg : decide ((k : Int) < (n : Int)) = true := decide_eq_true (by omega)
      have hg' : decide ((k : Int) < (n' : Int)) = true := decide_eq_true (by omega)
      clear Hq
      generalize l[k] = r at *
      generalize m[k] = r' at *
      by_cases hd : r < r'
      · have hR : R = -1 := by have := Hst.out; rw [if_pos hd] at this; exact this
        go_wp2
        go_quiet (fail)
        go_wp2
        go_ret
        exact ⟨by rw [hR]; rfl, Below.drewN' hb _⟩
      · by_cases hd2 : r' < r
        · have hR : R = 1 := by have := Hst.out; rw [if_neg hd, if_pos hd2] at this; exact this
          go_wp2
          go_quiet (fail)
          go_wp2
          go_quiet (fail)
          go_wp2
          go_ret
          exact ⟨by rw [hR]; rfl, Below.drewN' (Below.drewN' hb _) _⟩
        · have Hs2 : Hid (cmpL (l.drop (k + 1)) (m.drop (k + 1)) = R) := by have := Hst.out; rw [if_neg hd, if_neg hd2] at this; exact this.symm
          go_wp2
          go_quiet (fail)
          go_wp2
          go_quiet (fail)
          go_wp2
          go_roundw
          case rel => exact ⟨k + 1, by omega, by omega, by go_num, Hs2, Below.drewN' hb _⟩
          case measure => simp [intOf]; omega
    · have he := (cmpL_end l m k (by rw [Hn.out]; exact hk) (by rw [Hn'.out]; exact hk') (by rw [Hn.out, Hn'.out]; exact hlt)).symm.trans Hq.out
      rw [Hn.out, Hn'.out] at he
      have He := Lib.hid he
      clear he Hq
      by_cases h1 : k < n
      · have h2 : k = n' := by omega
        have hR : R = 1 := by have := He.out; rw [if_neg (by omega), if_pos (by omega)] at this; exact this.symm
        go_wp2
        go_ret
        exact ⟨by rw [hR]; rfl, hb⟩
      · have h2 : k = n := by omega
        by_cases h3 : n < n'
        · have hR : R = -1 := by have := He.out; rw [if_pos (by omega)] at this; exact this.symm
          go_wp2
          go_ret
          exact ⟨by rw [hR]; rfl, hb⟩
        · have hR : R = 0 := by have := He.out; rw [if_neg (by omega), if_neg (by omega)] at this; exact this.symm
          go_wp2
          go_ret
          exact ⟨by rw [hR]; rfl, hb⟩

/-- Two facts compared: by their relations' places, then by their values. -/
def cmpF (x y : Fct) : Int := if x.rel < y.rel then -1 else if y.rel < x.rel then 1 else cmpL x.vals y.vals
theorem specCompareFacts_c {a1 a1' : Option Addr} {cap1 cap1' : Nat} {x y : Fct} {w : World} (h : At cFct w x [.int .i64 x.rel, .slice a1 x.vals.length cap1]) (h' : At cFct w y [.int .i64 y.rel, .slice a1' y.vals.length cap1']) :
    Calls Try.prog 28 #[.agg #[.int .i64 x.rel, .slice a1 x.vals.length cap1], .agg #[.int .i64 y.rel, .slice a1' y.vals.length cap1']] w fun e w' => e = .returned (.int .i64 (cmpF x y)) ∧ Below w.heap.size w w' := by
  have h1 := (cFct_inv h).1
  have h2 := (cFct_inv h').1
  have H1 : Hid (∀ ww, Below w.heap.size w ww → Calls Try.prog 29 #[.slice a1 x.vals.length cap1, .slice a1' y.vals.length cap1'] ww fun e w' => e = .returned (.int .i64 (cmpL x.vals y.vals)) ∧ Below ww.heap.size ww w') :=
    fun ww hb => specl3Ints_c (At.below (c := cSlice cInt) h1 hb (Nat.le_refl _)) (At.below (c := cSlice cInt) h2 hb (Nat.le_refl _))
  clear h h1 h' h2
  unfold cmpF
  obtain ⟨r, l⟩ := x
  obtain ⟨r', l'⟩ := y
  simp only at *
  generalize cmpL l l' = z at *
  by_cases hr : r < r'
  · rw [if_pos hr]
    go_enter Try.func28, Try.ntmps28
    go_wp2
    go_ret
    exact ⟨rfl, by go_grown⟩
  · by_cases hr2 : r' < r
    · rw [if_neg hr, if_pos hr2]
      go_enter Try.func28, Try.ntmps28
      go_wp2
      go_ret
      exact ⟨rfl, by go_grown⟩
    · rw [if_neg hr, if_neg hr2]
      go_enter Try.func28, Try.ntmps28
      go_wp2_with fail
      refine (H1.out _ ?hb).mono ?_
      case hb => go_grown
      rintro e w1 ⟨rfl, hb1⟩
      have hbb : Below w.heap.size w w1 := Below.trans (by go_grown) (hb1.mono (by simp; try omega))
      go_wp2
      go_ret
      exact ⟨rfl, hbb⟩

/-- Every number of a list lies between 0 and 9. -/
def allIn (l : List Int) : Bool := l.all fun x => inB x 0 9
theorem allIn_step (l : List Int) (k : Nat) (hk : k < l.length) : allIn (l.drop k) = (inB l[k] 0 9 && allIn (l.drop (k + 1))) := by
  rw [List.drop_eq_getElem_cons hk]; rfl
/-- The arity of the relation at a place. -/
def arityAt (l : List Rel) (r : Int) : Int := match l[r.toNat]? with | some q => q.arity | none => 0
/-- A valid fact. -/
def validFact (l : List Rel) (x : Fct) : Bool := validRels l && (inB x.rel 0 ((l.length : Int) - 1) && (decide ((x.vals.length : Int) = arityAt l x.rel) && allIn x.vals))
end Go.Proofs.Ytpcjhnbifgjleaa
namespace Go.Proofs.Ytpcjhnbifgjleaa
open Go.RowKit
set_option linter.unusedVariables false
set_option maxRecDepth 100000
/-- Names ascending, behind a name. -/
def ascN : Option ByteArray → List Rel → Bool
  | _, [] => true
  | p, r :: l => okPrev p r.name && ascN (some r.name) l
theorem ascN_step (l : List Rel) (k : Nat) (hk : k < l.length) : ascN (prevOf l k) (l.drop k) = (okPrev (prevOf l k) l[k].name && ascN (prevOf l (k + 1)) (l.drop (k + 1))) := by
  rw [List.drop_eq_getElem_cons hk]
  simp [ascN, prevOf, hk]
theorem ascN_start (l : List Rel) : ascN none l = ascN (prevOf l 1) (l.drop 1) := by
  cases l with
  | nil => rfl
  | cons r l => simp [ascN, prevOf, okPrev]
theorem ascFrom_split : ∀ (l : List Rel) (p : Option ByteArray), ascFrom p l = (l.all validRel && ascN p l)
  | [], _ => rfl
  | r :: l, p => by
    simp only [ascFrom, ascN, List.all_cons, ascFrom_split l]
    cases validRel r <;> cases okPrev p r.name <;> cases l.all validRel <;> simp
theorem cmpB_list : ∀ (x y : List UInt8), decide (Lib.compareBytes x y ≥ 0) = !Op.bytesLess x y
  | [], [] => rfl
  | [], _ :: _ => rfl
  | _ :: _, [] => rfl
  | a :: x, b :: y => by
    rw [Lib.compareBytes, Op.bytesLess]
    by_cases h : a < b
    · simp [h]
    · by_cases h2 : b < a
      · have h3 : (a == b) = false := by
          simp only [beq_eq_false_iff_ne, ne_eq]
          intro e; subst e; exact h h2
        rw [if_neg h, if_pos h2, h3, decide_eq_false h]; rfl
      · have h3 : a = b := by
          apply UInt8.toNat_inj.mp
          have h4 : ¬ a.toNat < b.toNat := h
          have h5 : ¬ b.toNat < a.toNat := h2
          omega
        subst h3
        rw [if_neg h, if_neg h, cmpB_list x y, decide_eq_false h]; simp
theorem cmpB_lt (a b : ByteArray) : decide (Lib.compareBytes a.data.toList b.data.toList ≥ 0) = !Op.bytesLess a.toList b.toList := by
  rw [Lib.toList_data, Lib.toList_data]; exact cmpB_list _ _
end Go.Proofs.Ytpcjhnbifgjleaa
namespace Go.Proofs.Ytpcjhnbifgjleaa
open Go.RowKit
set_option linter.unusedVariables false
set_option maxRecDepth 100000
theorem all_drop {α : Type} (p : α → Bool) (l : List α) (k : Nat) (hk : k < l.length) : (l.drop k).all p = (p l[k] && (l.drop (k + 1)).all p) := by
  rw [List.drop_eq_getElem_cons hk]; rfl
end Go.Proofs.Ytpcjhnbifgjleaa
namespace Go.Proofs.Ytpcjhnbifgjleaa
open Go.RowKit
set_option linter.unusedVariables false
set_option maxRecDepth 100000
set_option maxHeartbeats 1600000 in
theorem sliceCompare_c {a a' : Option Addr} {cap cap' : Nat} {l m : List Int} {w : World} (h : At (cSlice cInt) w l [.slice a l.length cap]) (h' : At (cSlice cInt) w m [.slice a' m.length cap']) :
    Calls Try.prog 56 #[.slice a l.length cap, .slice a' m.length cap'] w fun e w' => e = .returned (.int .i64 (cmpL l m)) ∧ Below w.heap.size w w' := by
  have hm := (slice_len h).2
  have hm' := (slice_len h').2
  unfold maxLen at hm hm'
  have Hr : Hid (∀ w' : World, Below w.heap.size w w' → ∀ j (hj : j < l.length), _) := fun w' hb j hj => ints_at (Cod.ok_below h hb) j hj
  have Hr' : Hid (∀ w' : World, Below w.heap.size w w' → ∀ j (hj : j < m.length), _) := fun w' hb j hj => ints_at (Cod.ok_below h' hb) j hj
  clear h h'
  obtain ⟨n, hn⟩ : ∃ n : Nat, l.length = n := ⟨_, rfl⟩
  obtain ⟨n', hn'⟩ : ∃ n : Nat, m.length = n := ⟨_, rfl⟩
  have Hn := Lib.hid hn
  have Hn' := Lib.hid hn'
  rw [hn] at hm ⊢
  rw [hn'] at hm' ⊢
  clear hn hn'
  generalize hR : cmpL l m = R
  have HR : Hid (cmpL (l.drop 0) (m.drop 0) = R) := hR
  clear hR
  go_enter Try.func56, Try.ntmps56
  go_wp2
  go_loopw [11] (fun iv wr => ∃ k : Nat, k ≤ n ∧ k ≤ n' ∧ iv = .int .i64 k ∧ Hid (cmpL (l.drop k) (m.drop k) = R) ∧ Below w.heap.size w wr) (fun iv _ => n - (intOf iv).toNat)
  case atStart => exact ⟨0, by omega, by omega, by go_num, HR, Below.refl _ _⟩
  case round =>
    clear HR
    obtain ⟨k, hk, hk', rfl, Hq, hb⟩ := hrel
    by_cases h1 : k < n
    · have hkl : k < l.length := by rw [Hn.out]; exact h1
      obtain ⟨b, off, rfl, hbB, c0⟩ := Hr.out _ hb k hkl
      by_cases h2 : k < n'
      · have hkm : k < m.length := by rw [Hn'.out]; exact h2
        have Hst := Lib.hid (Hq.out.symm.trans (cmpL_step l m k hkl hkm))
        obtain ⟨b', off', rfl, hbB', c0'⟩ := Hr'.out _ hb k hkm
        have Hz : Hid (∀ ww, Calls Try.prog 55 #[.int .i64 l[k], .int .i64 m[k]] ww fun e w' => e = .returned (.int .i64 (Lib.compareInt l[k] m[k])) ∧ w' = ww) := fun ww => Try.cmp_Compare_int _ _ _
        have hz : Lib.compareInt l[k] m[k] = if l[k] < m[k] then -1 else if m[k] < l[k] then 1 else 0 := rfl
        clear Hq
        generalize Lib.compareInt l[k] m[k] = z at *
        generalize l[k] = r at *
        generalize m[k] = r' at *
        by_cases hd : r < r'
        · have hR : R = -1 := by have := Hst.out; rw [if_pos hd] at this; exact this
          rw [if_pos hd] at hz
          subst hz
          go_wp2_with (go_at_call 55; refine (Hz.out _).mono ?_; rintro e w' ⟨rfl, rfl⟩)
          go_ret
          exact ⟨by rw [hR]; rfl, hb⟩
        · rw [if_neg hd] at hz
          by_cases hd2 : r' < r
          · have hR : R = 1 := by have := Hst.out; rw [if_neg hd, if_pos hd2] at this; exact this
            rw [if_pos hd2] at hz
            subst hz
            go_wp2_with (go_at_call 55; refine (Hz.out _).mono ?_; rintro e w' ⟨rfl, rfl⟩)
            go_ret
            exact ⟨by rw [hR]; rfl, hb⟩
          · have Hs2 : Hid (cmpL (l.drop (k + 1)) (m.drop (k + 1)) = R) := by have := Hst.out; rw [if_neg hd, if_neg hd2] at this; exact this.symm
            rw [if_neg hd2] at hz
            subst hz
            go_wp2_with (go_at_call 55; refine (Hz.out _).mono ?_; rintro e w' ⟨rfl, rfl⟩)
            go_roundw
            case rel => exact ⟨k + 1, by omega, by omega, by go_num, Hs2, hb⟩
            case measure => simp [intOf]; omega
      · have he := (cmpL_end l m k (by rw [Hn.out]; exact hk) (by rw [Hn'.out]; exact hk') (by rw [Hn.out, Hn'.out]; omega)).symm.trans Hq.out
        rw [Hn.out, Hn'.out] at he
        have hR : R = 1 := by rw [if_neg (by omega), if_pos (by omega)] at he; exact he.symm
        clear he Hq
        go_wp2_with fail
        go_ret
        exact ⟨by rw [hR]; rfl, hb⟩
    · have he := (cmpL_end l m k (by rw [Hn.out]; exact hk) (by rw [Hn'.out]; exact hk') (by rw [Hn.out, Hn'.out]; omega)).symm.trans Hq.out
      rw [Hn.out, Hn'.out] at he
      obtain rfl : k = n := by omega
      by_cases h3 : k < n'
      · have hR : R = -1 := by rw [if_pos (by omega)] at he; exact he.symm
        clear he Hq
        go_wp2_with fail
        go_ret
        exact ⟨by rw [hR]; rfl, hb⟩
      · have hR : R = 0 := by rw [if_neg (by omega), if_neg (by omega)] at he; exact he.symm
        clear he Hq
        go_wp2_with fail
        go_ret
        exact ⟨by rw [hR]; rfl, hb⟩

set_option maxHeartbeats 800000 in
theorem implCompareFacts_c {a1 a1' : Option Addr} {cap1 cap1' : Nat} {x y : Fct} {w : World} (h : At cFct w x [.int .i64 x.rel, .slice a1 x.vals.length cap1]) (h' : At cFct w y [.int .i64 y.rel, .slice a1' y.vals.length cap1']) :
    Calls Try.prog 51 #[.agg #[.int .i64 x.rel, .slice a1 x.vals.length cap1], .agg #[.int .i64 y.rel, .slice a1' y.vals.length cap1']] w fun e w' => e = .returned (.int .i64 (cmpF x y)) ∧ Below w.heap.size w w' := by
  have h1 := (cFct_inv h).1
  have h2 := (cFct_inv h').1
  have H1 : Hid (∀ ww, Below w.heap.size w ww → Calls Try.prog 56 #[.slice a1 x.vals.length cap1, .slice a1' y.vals.length cap1'] ww fun e w' => e = .returned (.int .i64 (cmpL x.vals y.vals)) ∧ Below ww.heap.size ww w') :=
    fun ww hb => sliceCompare_c (At.below (c := cSlice cInt) h1 hb (Nat.le_refl _)) (At.below (c := cSlice cInt) h2 hb (Nat.le_refl _))
  have H2 : Hid (∀ ww, Calls Try.prog 55 #[.int .i64 x.rel, .int .i64 y.rel] ww fun e w' => e = .returned (.int .i64 (Lib.compareInt x.rel y.rel)) ∧ w' = ww) := fun ww => Try.cmp_Compare_int _ _ _
  clear h h1 h' h2
  unfold cmpF
  obtain ⟨r, l⟩ := x
  obtain ⟨r', l'⟩ := y
  simp only at *
  have hz : Lib.compareInt r r' = if r < r' then -1 else if r' < r then 1 else 0 := rfl
  generalize Lib.compareInt r r' = c at *
  generalize cmpL l l' = z at *
  by_cases hr : r = r'
  · subst hr
    rw [if_neg (by omega), if_neg (by omega)]
    have hd : (r != r) = false := by simp
    go_enter Try.func51, Try.ntmps51
    go_wp2_with fail
    refine (H1.out _ ?hb).mono ?_
    case hb => go_grown
    rintro e w1 ⟨rfl, hb1⟩
    have hbb : Below w.heap.size w w1 := Below.trans (by go_grown) (hb1.mono (by simp; try omega))
    go_wp2
    go_ret
    exact ⟨rfl, hbb⟩
  · have hz2 : c = if r < r' then -1 else if r' < r then 1 else z := by
      rw [hz]; by_cases h1 : r < r'
      · rw [if_pos h1, if_pos h1]
      · rw [if_neg h1, if_neg h1, if_pos (by omega), if_pos (by omega)]
    rw [← hz2]
    clear hz hz2
    have hd : (r != r') = true := by simp [hr]
    go_enter Try.func51, Try.ntmps51
    go_wp2_with (go_at_call 55; refine (H2.out _).mono ?_; rintro e w' ⟨rfl, rfl⟩)
    go_ret
    exact ⟨rfl, by go_grown⟩

end Go.Proofs.Ytpcjhnbifgjleaa
namespace Go.Proofs.Ytpcjhnbifgjleaa
open Go.RowKit
set_option linter.unusedVariables false
set_option maxRecDepth 100000
end Go.Proofs.Ytpcjhnbifgjleaa
