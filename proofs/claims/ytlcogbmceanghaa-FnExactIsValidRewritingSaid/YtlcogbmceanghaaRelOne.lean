/- RelOne: In RelSpec2 FactSpec RelImpl2 RelImpl3 FactImpl FactImpl2. -/
import Derived.Test.YtlcogbmceanghaaRows
import Derived.Test.YtlcogbmceanghaaCodOne
import Derived.WalkKit
import Derived.Test.YtlcogbmceanghaaTyTwo
import Derived.BigRegion
import Derived.Test.YtlcogbmceanghaaGrow
import Derived.Lib.Bytealg
import Derived.Test.YtlcogbmceanghaaShelf
/- Between two bounds: the model's test. -/
namespace Go.Proofs.Ytlcogbmceanghaa
open Go.RowKit
set_option linter.unusedVariables false
set_option maxRecDepth 100000

/-- Between two bounds. -/
def inB (n lo hi : Int) : Bool := decide (lo ≤ n) && decide (n ≤ hi)
theorem l1In_any (n lo hi : Int) (w : World) :
    Calls Try.prog 15 #[.int .i64 n, .int .i64 lo, .int .i64 hi] w fun e w' => e = .returned (.bool (inB n lo hi)) ∧ w = w' := by
  unfold inB
  by_cases h : lo ≤ n
  · go_enter Try.func15, Try.ntmps15
    go_wp2
    go_ret
    exact ⟨by simp; omega, rfl⟩
  · go_enter Try.func15, Try.ntmps15
    go_wp2
    go_ret
    exact ⟨by simp; omega, rfl⟩
end Go.Proofs.Ytlcogbmceanghaa

/- Chapter 2: the model's functions on relations. -/
namespace Go.Proofs.Ytlcogbmceanghaa
open Go.RowKit
set_option linter.unusedVariables false
set_option maxRecDepth 100000

/-- One letter from a to z. -/
def validName (n : ByteArray) : Bool := if h : n.size = 1 then decide (97 ≤ n[0].toNat) && decide (n[0].toNat ≤ 122) else false
/-- A valid relation. -/
def validRel (r : Rel) : Bool := validName r.name && (inB r.arity 1 3 && inB r.key 0 r.arity)
theorem validName_one {n : ByteArray} (h : n.size = 1) : validName n = (decide (97 ≤ n[0].toNat) && decide (n[0].toNat ≤ 122)) := by unfold validName; rw [dif_pos h]
theorem validName_not {n : ByteArray} (h : n.size ≠ 1) : validName n = false := by unfold validName; rw [dif_neg h]
set_option maxHeartbeats 800000 in
theorem specIsValidRelation_c {r : Rel} {w : World} (h : At cRel w r [.string r.name, .int .i64 r.arity, .int .i64 r.key]) :
    Calls Try.prog 26 #[.agg #[.string r.name, .int .i64 r.arity, .int .i64 r.key]] w fun e w' => e = .returned (.bool (validRel r)) ∧ Below w.heap.size w w' := by
  have hr := (cRel_inv h).2.1
  clear h
  obtain ⟨n, a, k⟩ := r
  unfold maxLen at hr
  simp only [validRel] at *
  by_cases h1 : n.size = 1
  · have hn := validName_one h1
    have hlt : 0 < n.size := by omega
    have hb := n[0].toNat_lt
    generalize hu : n[0] = u at *
    by_cases h2 : (97 : Int) ≤ (u.toNat : Int)
    · by_cases h3 : (u.toNat : Int) ≤ 122
      · have hn2 : validName n = true := by rw [hn]; simp; omega
        rw [hn2, Bool.true_and]
        clear hn hn2
        cases hi : inB a 1 3 with
        | true =>
          rw [Bool.true_and]
          go_enter Try.func26, Try.ntmps26
          go_wp2_with (go_at_call 15; refine (l1In_any _ _ _ _).mono ?_; rintro e w' ⟨rfl, rfl⟩)
          go_ret
          exact ⟨rfl, by go_grown⟩
        | false =>
          rw [Bool.false_and]
          go_enter Try.func26, Try.ntmps26
          go_wp2_with (go_at_call 15; refine (l1In_any _ _ _ _).mono ?_; rintro e w' ⟨rfl, rfl⟩)
          go_ret
          exact ⟨rfl, by go_grown⟩
      · have hn2 : validName n = false := by rw [hn]; simp; omega
        rw [hn2, Bool.false_and]
        clear hn hn2
        go_enter Try.func26, Try.ntmps26
        go_wp2_with (go_at_call 15; refine (l1In_any _ _ _ _).mono ?_; rintro e w' ⟨rfl, rfl⟩)
        go_ret
        exact ⟨rfl, by go_grown⟩
    · have hn2 : validName n = false := by rw [hn]; simp; omega
      rw [hn2, Bool.false_and]
      clear hn hn2
      go_enter Try.func26, Try.ntmps26
      go_wp2_with (go_at_call 15; refine (l1In_any _ _ _ _).mono ?_; rintro e w' ⟨rfl, rfl⟩)
      go_ret
      exact ⟨rfl, by go_grown⟩
  · rw [validName_not h1, Bool.false_and]
    have h2 : ((n.size : Int) == 1) = false := by simp; omega
    go_enter Try.func26, Try.ntmps26
    go_wp2_with (go_at_call 15; refine (l1In_any _ _ _ _).mono ?_; rintro e w' ⟨rfl, rfl⟩)
    go_ret
    exact ⟨rfl, by go_grown⟩

/-- The name before place k. -/
def prevOf (l : List Rel) : Nat → Option ByteArray
  | 0 => none
  | k + 1 => l[k]?.map Rel.name
/-- A name after the one before. -/
def okPrev : Option ByteArray → ByteArray → Bool
  | none, _ => true
  | some q, n => Op.bytesLess q.toList n.toList
/-- Valid relations, ascending from a name on. -/
def ascFrom : Option ByteArray → List Rel → Bool
  | _, [] => true
  | p, r :: l => validRel r && (okPrev p r.name && ascFrom (some r.name) l)
def validRels (l : List Rel) : Bool := ascFrom none l && decide (l.length ≤ 4)
theorem ascFrom_step (l : List Rel) (k : Nat) (hk : k < l.length) : ascFrom (prevOf l k) (l.drop k) = (validRel l[k] && (okPrev (prevOf l k) l[k].name && ascFrom (prevOf l (k + 1)) (l.drop (k + 1)))) := by
  rw [List.drop_eq_getElem_cons hk]
  simp [ascFrom, prevOf, hk]
theorem okPrev_succ (l : List Rel) (k : Nat) (hk : k < l.length) (n : ByteArray) : okPrev (prevOf l (k + 1)) n = Op.bytesLess l[k].name.toList n.toList := by
  simp [prevOf, hk, okPrev]

set_option maxHeartbeats 1600000 in
theorem specAreValidRelations_c {a0 : Option Addr} {cap0 : Nat} {l : List Rel} {w : World} (h : At (cSlice cRel) w l [.slice a0 l.length cap0]) :
    Calls Try.prog 14 #[.slice a0 l.length cap0] w fun e w' => e = .returned (.bool (validRels l)) ∧ Below w.heap.size w w' := by
  have hm := (slice_len h).2
  unfold maxLen at hm
  unfold validRels
  obtain ⟨n, hn⟩ : ∃ n : Nat, l.length = n := ⟨_, rfl⟩
  have Hr : Hid (∀ w' : World, Below w.heap.size w w' → ∀ j (hj : j < l.length), _) := fun w' hb j hj => at_Relation (Cod.ok_below h hb) j hj
  have Hn := Lib.hid hn
  rw [hn] at hm ⊢
  clear hn h
  generalize hR : ascFrom none l = R
  have HR : Hid (ascFrom (prevOf l 0) (l.drop 0) = R) := hR
  clear hR
  go_enter Try.func14, Try.ntmps14
  go_wp2
  go_loopw [3] (fun iv wr => ∃ k : Nat, k ≤ n ∧ iv = .int .i64 k ∧ Hid (ascFrom (prevOf l k) (l.drop k) = R) ∧ Below w.heap.size w wr) (fun iv _ => n - (intOf iv).toNat)
  case atStart => exact ⟨0, by omega, by go_num, HR, Below.refl _ _⟩
  case round =>
    clear HR
    obtain ⟨k, hk, rfl, Hq, hb⟩ := hrel
    by_cases hlt : k < n
    · have hkl : k < l.length := by rw [Hn.out]; exact hlt
      have Hst := Lib.hid (Hq.out.symm.trans (ascFrom_step l k hkl))
      obtain ⟨b, off, rfl, hbB, c0, c1, c2, hx⟩ := Hr.out _ hb k hkl
      have Hc : Hid (∀ ww, Below w.heap.size w ww → Calls Try.prog 26 #[.agg #[.string l[k].name, .int .i64 l[k].arity, .int .i64 l[k].key]] ww fun e w' => e = .returned (.bool (validRel l[k])) ∧ Below ww.heap.size ww w') :=
        fun ww hw2 => by obtain ⟨_, _, _, _, _, _, _, hx⟩ := Hr.out ww hw2 k hkl; exact specIsValidRelation_c (cRel.keep hx (fun _ _ => rfl) hw2.size)
      have C0 := grow_cell c0
      have C1 := grow_cell c1
      have C2 := grow_cell c2
      clear hx Hq
      rcases Nat.eq_zero_or_pos k with hk0 | hk0
      · have hg : decide ((0 : Int) < (k : Int)) = false := decide_eq_false (by omega)
        have hg2 : decide (0 < k) = false := decide_eq_false (by omega)
        have hp : okPrev (prevOf l k) l[k].name = true := by subst hk0; rfl
        rw [hp, Bool.true_and] at Hst
        clear hp hk0
        generalize validRel l[k] = v at *
        generalize l[k] = r at *
        cases v with
        | true =>
          go_wp2_with fail
          refine wp_region_grow (by kernel_rfl) (by kernel_rfl) ?_
          repeat (go_big_quiet_step ((go_at_call 26; exact Calls.grow fun ww h => Hc.out ww (hb.trans (h.mono hb.size)))))
          refine wpQuiet_nil ?_
          rintro _ ⟨nq, rfl⟩
          go_wp2
          go_roundw
          case rel => exact ⟨k + 1, by omega, by go_num, by have h := Hst.out; rw [Bool.true_and] at h; exact h.symm, hb.trans (nq.below.mono hb.size)⟩
          case measure => simp [intOf]; omega
        | false =>
          have hR : R = false := by have h := Hst.out; rw [Bool.false_and] at h; exact h
          go_wp2_with fail
          refine wp_region_grow (by kernel_rfl) (by kernel_rfl) ?_
          repeat (go_big_quiet_step ((go_at_call 26; exact Calls.grow fun ww h => Hc.out ww (hb.trans (h.mono hb.size)))))
          refine wpQuiet_nil ?_
          rintro _ ⟨nq, rfl⟩
          go_wp2
          go_ret
          exact ⟨by rw [hR]; rfl, hb.trans (nq.below.mono hb.size)⟩
      · have hg : decide ((0 : Int) < (k : Int)) = true := decide_eq_true (by omega)
        have hg2 : decide (0 < k) = true := decide_eq_true (by omega)
        obtain ⟨j, hj⟩ : ∃ j, k = j + 1 := ⟨k - 1, by omega⟩
        have hjl : j < l.length := by omega
        have hp : okPrev (prevOf l k) l[k].name = Op.bytesLess l[j].name.toList l[k].name.toList := by subst hj; exact okPrev_succ l j hjl _
        rw [hp] at Hst
        clear hp hk0
        obtain ⟨b', off', e', hbB', p0, p1, p2, hxp⟩ := Hr.out _ hb j hjl
        obtain ⟨rfl, rfl⟩ : b = b' ∧ off = off' := by simp at e'; exact e'
        have hwj : wrap64 ((k : Int) - 1) = (j : Int) := by rw [IntWalk.wrap64_in _ ⟨by omega, by omega⟩]; omega
        have hkj : (k : Int) - 1 = (j : Int) := by omega
        have D0 := grow_cell p0
        have hjn : (j : Int) < n := by omega
        have Hj := Lib.hid hj
        clear hj e' hxp hbB' p0 p1 p2
        generalize validRel l[k] = v at *
        generalize l[j] = q at *
        generalize l[k] = r at *
        generalize hlt' : Op.bytesLess q.name.toList r.name.toList = z at *
        cases v with
        | true =>
          rw [Bool.true_and] at Hst
          cases z with
          | true =>
            go_wp2_with fail
            refine wp_region_grow (by kernel_rfl) (by kernel_rfl) ?_
            repeat (go_big_quiet_step ((go_at_call 26; exact Calls.grow fun ww h => Hc.out ww (hb.trans (h.mono hb.size)))))
            refine wpQuiet_nil ?_
            rintro _ ⟨nq, rfl⟩
            go_wp2
            go_roundw
            case rel => exact ⟨k + 1, by omega, by go_num, by have h := Hst.out; rw [Bool.true_and] at h; exact h.symm, hb.trans (nq.below.mono hb.size)⟩
            case measure => simp [intOf]; omega
          | false =>
            have hR : R = false := by have h := Hst.out; rw [Bool.false_and] at h; exact h
            go_wp2_with fail
            refine wp_region_grow (by kernel_rfl) (by kernel_rfl) ?_
            repeat (go_big_quiet_step ((go_at_call 26; exact Calls.grow fun ww h => Hc.out ww (hb.trans (h.mono hb.size)))))
            refine wpQuiet_nil ?_
            rintro _ ⟨nq, rfl⟩
            go_wp2
            go_ret
            exact ⟨by rw [hR]; rfl, hb.trans (nq.below.mono hb.size)⟩
        | false =>
          have hR : R = false := by have h := Hst.out; rw [Bool.false_and] at h; exact h
          go_wp2_with fail
          refine wp_region_grow (by kernel_rfl) (by kernel_rfl) ?_
          repeat (go_big_quiet_step ((go_at_call 26; exact Calls.grow fun ww h => Hc.out ww (hb.trans (h.mono hb.size)))))
          refine wpQuiet_nil ?_
          rintro _ ⟨nq, rfl⟩
          go_wp2
          go_ret
          exact ⟨by rw [hR]; rfl, hb.trans (nq.below.mono hb.size)⟩
    · obtain rfl : k = n := by omega
      have hR : R = true := by
        have := Hq.out
        rw [List.drop_eq_nil_of_le (by rw [Hn.out]; exact Nat.le_refl _)] at this
        exact this.symm
      by_cases h4 : (k : Int) ≤ 4
      · go_wp2
        go_ret
        exact ⟨by show Ending.returned (.bool _) = _; rw [hR]; simp; omega, hb⟩
      · go_wp2
        go_ret
        exact ⟨by show Ending.returned (.bool _) = _; simp; omega, hb⟩

/-- The place of the first relation of a name, counted from i, or -1. -/
def idxFrom : List Rel → ByteArray → Int → Int
  | [], _, _ => -1
  | r :: l, s, i => if r.name = s then i else idxFrom l s (i + 1)
def relIdx (l : List Rel) (s : ByteArray) : Int := idxFrom l s 0
theorem idxFrom_step (l : List Rel) (s : ByteArray) (k : Nat) (hk : k < l.length) (i : Int) : idxFrom (l.drop k) s i = if l[k].name = s then i else idxFrom (l.drop (k + 1)) s (i + 1) := by
  rw [List.drop_eq_getElem_cons hk]; rfl
theorem name_beq (n s : ByteArray) : (n.toList == s.toList) = decide (n = s) := by
  by_cases h : n = s
  · subst h; simp
  · rw [decide_eq_false h, Lib.toList_data, Lib.toList_data]
    simp only [beq_eq_false_iff_ne, ne_eq]
    intro e; exact h (by rw [str_of n, str_of s, e])
end Go.Proofs.Ytlcogbmceanghaa
namespace Go.Proofs.Ytlcogbmceanghaa
open Go.RowKit
set_option linter.unusedVariables false
set_option maxRecDepth 100000
/-- Two lists of numbers compared: by the first place at which they differ, then by their lengths. -/
def cmpL : List Int → List Int → Int
  | [], [] => 0
  | [], _ :: _ => -1
  | _ :: _, [] => 1
  | a :: l, b :: m => if a < b then -1 else if b < a then 1 else cmpL l m
theorem cmpL_step (l m : List Int) (k : Nat) (h1 : k < l.length) (h2 : k < m.length) : cmpL (l.drop k) (m.drop k) = if l[k] < m[k] then -1 else if m[k] < l[k] then 1 else cmpL (l.drop (k + 1)) (m.drop (k + 1)) := by
  rw [List.drop_eq_getElem_cons h1, List.drop_eq_getElem_cons h2]; rfl
theorem cmpL_end (l m : List Int) (k : Nat) (h1 : k ≤ l.length) (h2 : k ≤ m.length) (h : ¬ (k < l.length ∧ k < m.length)) : cmpL (l.drop k) (m.drop k) = if l.length < m.length then -1 else if m.length < l.length then 1 else 0 := by
  by_cases hl : k < l.length
  · have hm : k = m.length := by omega
    subst hm
    rw [List.drop_eq_getElem_cons hl, List.drop_length]
    rw [if_neg (by omega), if_pos hl]; rfl
  · have hl2 : k = l.length := by omega
    subst hl2
    rw [List.drop_length]
    by_cases hm : l.length < m.length
    · rw [List.drop_eq_getElem_cons hm, if_pos hm]; rfl
    · have : m.drop l.length = [] := List.drop_eq_nil_of_le (by omega)
      rw [this, if_neg hm, if_neg (by omega)]; rfl
/-- Two facts compared: by their relations' places, then by their values. -/
def cmpF (x y : Fct) : Int := if x.rel < y.rel then -1 else if y.rel < x.rel then 1 else cmpL x.vals y.vals
/-- Every number of a list lies between 0 and 9. -/
def allIn (l : List Int) : Bool := l.all fun x => inB x 0 9
theorem allIn_step (l : List Int) (k : Nat) (hk : k < l.length) : allIn (l.drop k) = (inB l[k] 0 9 && allIn (l.drop (k + 1))) := by
  rw [List.drop_eq_getElem_cons hk]; rfl
/-- The arity of the relation at a place. -/
def arityAt (l : List Rel) (r : Int) : Int := match l[r.toNat]? with | some q => q.arity | none => 0
/-- A valid fact. -/
def validFact (l : List Rel) (x : Fct) : Bool := validRels l && (inB x.rel 0 ((l.length : Int) - 1) && (decide ((x.vals.length : Int) = arityAt l x.rel) && allIn x.vals))
end Go.Proofs.Ytlcogbmceanghaa
namespace Go.Proofs.Ytlcogbmceanghaa
open Go.RowKit
set_option linter.unusedVariables false
set_option maxRecDepth 100000
set_option maxHeartbeats 800000 in
theorem isLetter_any {n : ByteArray} (hs : n.size ≤ 9223372036854775807) (w : World) :
    Calls Try.prog 44 #[.string n] w fun e w' => e = .returned (.bool (validName n)) ∧ w = w' := by
  by_cases h1 : n.size = 1
  · have hn := validName_one h1
    have hlt : 0 < n.size := by omega
    have hb := n[0].toNat_lt
    generalize hu : n[0] = u at *
    by_cases h2 : (97 : Int) ≤ (u.toNat : Int)
    · by_cases h3 : (u.toNat : Int) ≤ 122
      · have hn2 : validName n = true := by rw [hn]; simp; omega
        rw [hn2]
        clear hn hn2
        go_enter Try.func44, Try.ntmps44
        go_wp2
        go_ret
        exact ⟨rfl, rfl⟩
      · have hn2 : validName n = false := by rw [hn]; simp; omega
        rw [hn2]
        clear hn hn2
        go_enter Try.func44, Try.ntmps44
        go_wp2
        go_ret
        exact ⟨rfl, rfl⟩
    · have hn2 : validName n = false := by rw [hn]; simp; omega
      rw [hn2]
      clear hn hn2
      go_enter Try.func44, Try.ntmps44
      go_wp2
      go_ret
      exact ⟨rfl, rfl⟩
  · rw [validName_not h1]
    have h2 : ((n.size : Int) == 1) = false := by simp; omega
    go_enter Try.func44, Try.ntmps44
    go_wp2
    go_ret
    exact ⟨rfl, rfl⟩
set_option maxHeartbeats 1600000 in
theorem implIsValidRelation_c {r : Rel} {w : World} (h : At cRel w r [.string r.name, .int .i64 r.arity, .int .i64 r.key]) :
    Calls Try.prog 37 #[.agg #[.string r.name, .int .i64 r.arity, .int .i64 r.key]] w fun e w' => e = .returned (.bool (validRel r)) ∧ Below w.heap.size w w' := by
  have hr := (cRel_inv h).2.1
  clear h
  obtain ⟨n, a, k⟩ := r
  unfold maxLen at hr
  simp only [validRel, inB] at *
  have H := fun ww => isLetter_any (n := n) (by omega) ww
  generalize validName n = v at *
  cases v with
  | false =>
    rw [Bool.false_and]
    go_enter Try.func37, Try.ntmps37
    go_wp2_with (go_at_call 44; refine (H _).mono ?_; rintro e w' ⟨rfl, rfl⟩)
    go_ret
    exact ⟨rfl, by go_grown⟩
  | true =>
    rw [Bool.true_and]
    by_cases h1 : (1 : Int) ≤ a <;> by_cases h2 : a ≤ 3 <;> by_cases h3 : (0 : Int) ≤ k
    all_goals try (exfalso; omega)
    all_goals
      go_enter Try.func37, Try.ntmps37
      go_wp2_with (go_at_call 44; refine (H _).mono ?_; rintro e w' ⟨rfl, rfl⟩)
    all_goals
      go_ret
      exact ⟨by first | (simp [h1, h2, h3]; done) | (simp; omega), by go_grown⟩

/-! ### names in ascending order -/
/-- Names ascending, behind a name. -/
def ascN : Option ByteArray → List Rel → Bool
  | _, [] => true
  | p, r :: l => okPrev p r.name && ascN (some r.name) l
theorem ascN_step (l : List Rel) (k : Nat) (hk : k < l.length) : ascN (prevOf l k) (l.drop k) = (okPrev (prevOf l k) l[k].name && ascN (prevOf l (k + 1)) (l.drop (k + 1))) := by
  rw [List.drop_eq_getElem_cons hk]
  simp [ascN, prevOf, hk]
theorem ascN_start (l : List Rel) : ascN none l = ascN (prevOf l 1) (l.drop 1) := by
  cases l with
  | nil => rfl
  | cons r l => simp [ascN, prevOf, okPrev]
theorem ascFrom_split : ∀ (l : List Rel) (p : Option ByteArray), ascFrom p l = (l.all validRel && ascN p l)
  | [], _ => rfl
  | r :: l, p => by
    simp only [ascFrom, ascN, List.all_cons, ascFrom_split l]
    cases validRel r <;> cases okPrev p r.name <;> cases l.all validRel <;> simp
theorem cmpB_list : ∀ (x y : List UInt8), decide (Lib.compareBytes x y ≥ 0) = !Op.bytesLess x y
  | [], [] => rfl
  | [], _ :: _ => rfl
  | _ :: _, [] => rfl
  | a :: x, b :: y => by
    rw [Lib.compareBytes, Op.bytesLess]
    by_cases h : a < b
    · simp [h]
    · by_cases h2 : b < a
      · have h3 : (a == b) = false := by
          simp only [beq_eq_false_iff_ne, ne_eq]
          intro e; subst e; exact h h2
        rw [if_neg h, if_pos h2, h3, decide_eq_false h]; rfl
      · have h3 : a = b := by
          apply UInt8.toNat_inj.mp
          have h4 : ¬ a.toNat < b.toNat := h
          have h5 : ¬ b.toNat < a.toNat := h2
          omega
        subst h3
        rw [if_neg h, if_neg h, cmpB_list x y, decide_eq_false h]; simp
theorem cmpB_lt (a b : ByteArray) : decide (Lib.compareBytes a.data.toList b.data.toList ≥ 0) = !Op.bytesLess a.toList b.toList := by
  rw [Lib.toList_data, Lib.toList_data]; exact cmpB_list _ _
theorem compareNames_c {n m : ByteArray} {a k a' k' : Int} (w : World) :
    Calls Try.prog 39 #[.agg #[.string n, .int .i64 a, .int .i64 k], .agg #[.string m, .int .i64 a', .int .i64 k']] w fun e w' => e = .returned (.int .i64 (Lib.compareBytes n.data.toList m.data.toList)) ∧ Below w.heap.size w w' := by
  generalize hz : Lib.compareBytes n.data.toList m.data.toList = z
  have H : ∀ ww, Calls Try.prog 45 #[.string n, .string m] ww fun e w' => e = .returned (.int .i64 z) ∧ w' = ww := fun ww => hz ▸ Try.strings_Compare n m ww
  clear hz
  go_enter Try.func39, Try.ntmps39
  go_wp2_with (go_at_call 45; refine (H _).mono ?_; rintro e w' ⟨rfl, rfl⟩)
  go_ret
  exact ⟨rfl, by go_grown⟩

set_option maxHeartbeats 1600000 in
theorem ascNames_c {a0 : Option Addr} {cap0 : Nat} {l : List Rel} {w : World} (h : At (cSlice cRel) w l [.slice a0 l.length cap0]) :
    Calls Try.prog 38 #[.slice a0 l.length cap0, .func (.func 39) #[] #[]] w fun e w' => e = .returned (.bool (ascN none l)) ∧ Below w.heap.size w w' := by
  have hm := (slice_len h).2
  unfold maxLen at hm
  obtain ⟨n, hn⟩ : ∃ n : Nat, l.length = n := ⟨_, rfl⟩
  have Hr : Hid (∀ w' : World, Below w.heap.size w w' → ∀ j (hj : j < l.length), _) := fun w' hb j hj => at_Relation (Cod.ok_below h hb) j hj
  have Hn := Lib.hid hn
  rw [hn] at hm ⊢
  clear hn h
  generalize hR : ascN none l = R
  rw [ascN_start] at hR
  have HR : Hid (ascN (prevOf l 1) (l.drop 1) = R) := hR
  clear hR
  go_enter Try.func38, Try.ntmps38
  go_wp2
  go_loopw [5] (fun iv wr => ∃ k : Nat, (k ≤ n ∨ k = 1) ∧ 1 ≤ k ∧ iv = .int .i64 k ∧ Hid (ascN (prevOf l k) (l.drop k) = R) ∧ Below w.heap.size w wr) (fun iv _ => n - (intOf iv).toNat)
  case atStart => exact ⟨1, by omega, by omega, by go_num, HR, Below.refl _ _⟩
  case round =>
    clear HR
    obtain ⟨k, hk, hk1, rfl, Hq, hb⟩ := hrel
    by_cases hlt : k < n
    · have hkl : k < l.length := by rw [Hn.out]; exact hlt
      obtain ⟨j, hj⟩ : ∃ j, k = j + 1 := ⟨k - 1, by omega⟩
      have hjl : j < l.length := by omega
      have hp : okPrev (prevOf l k) l[k].name = Op.bytesLess l[j].name.toList l[k].name.toList := by subst hj; exact okPrev_succ l j hjl _
      have Hst := Lib.hid (Hq.out.symm.trans (ascN_step l k hkl))
      rw [hp] at Hst
      obtain ⟨b, off, rfl, hbB, c0, c1, c2, hx⟩ := Hr.out _ hb k hkl
      obtain ⟨b', off', e', hbB', p0, p1, p2, hxp⟩ := Hr.out _ hb j hjl
      obtain ⟨rfl, rfl⟩ : b = b' ∧ off = off' := by simp at e'; exact e'
      have C0 := grow_cell c0
      have C1 := grow_cell c1
      have C2 := grow_cell c2
      have D0 := grow_cell p0
      have D1 := grow_cell p1
      have D2 := grow_cell p2
      have hwj : wrap64 ((k : Int) - 1) = (j : Int) := by rw [IntWalk.wrap64_in _ ⟨by omega, by omega⟩]; omega
      have hkj : (k : Int) - 1 = (j : Int) := by omega
      have hjn : (j : Int) < n := by omega
      have hz := cmpB_lt l[j].name l[k].name
      have Hc := fun ww => compareNames_c (n := l[j].name) (m := l[k].name) (a := l[j].arity) (k := l[j].key) (a' := l[k].arity) (k' := l[k].key) ww
      have Hj := Lib.hid hj
      clear hj e' hxp hx hp hbB' hbB p0 p1 p2 c0 c1 c2 Hq
      generalize l[j] = q at *
      generalize l[k] = r at *
      generalize Op.bytesLess q.name.toList r.name.toList = z at *
      generalize Lib.compareBytes q.name.data.toList r.name.data.toList = zz at *
      cases z with
      | true =>
        rw [Bool.not_true] at hz
        go_wp2_with fail
        refine wp_region_grow (by kernel_rfl) (by kernel_rfl) ?_
        repeat (go_big_quiet_step ((go_at_call 39; exact Calls.grow fun ww h => Hc ww)))
        refine wpQuiet_nil ?_
        rintro _ ⟨nq, rfl⟩
        go_wp2
        go_roundw
        case rel => exact ⟨k + 1, by omega, by omega, by go_num, by have h := Hst.out; rw [Bool.true_and] at h; exact h.symm, hb.trans (nq.below.mono hb.size)⟩
        case measure => simp [intOf]; omega
      | false =>
        rw [Bool.not_false] at hz
        have hR : R = false := by have h := Hst.out; rw [Bool.false_and] at h; exact h
        go_wp2_with fail
        refine wp_region_grow (by kernel_rfl) (by kernel_rfl) ?_
        repeat (go_big_quiet_step ((go_at_call 39; exact Calls.grow fun ww h => Hc ww)))
        refine wpQuiet_nil ?_
        rintro _ ⟨nq, rfl⟩
        go_wp2
        go_ret
        exact ⟨by rw [hR]; rfl, hb.trans (nq.below.mono hb.size)⟩
    · have hR : R = true := by
        have := Hq.out
        rw [List.drop_eq_nil_of_le (by rw [Hn.out]; omega)] at this
        exact this.symm
      go_wp2
      go_ret
      exact ⟨by rw [hR]; rfl, hb⟩
end Go.Proofs.Ytlcogbmceanghaa

/- Chapter 2: the program's functions on lists of relations. -/
namespace Go.Proofs.Ytlcogbmceanghaa
open Go.RowKit
set_option linter.unusedVariables false
set_option maxRecDepth 100000

theorem all_drop {α : Type} (p : α → Bool) (l : List α) (k : Nat) (hk : k < l.length) : (l.drop k).all p = (p l[k] && (l.drop (k + 1)).all p) := by
  rw [List.drop_eq_getElem_cons hk]; rfl
set_option maxHeartbeats 1600000 in
theorem implAreValidRelations_c {a0 : Option Addr} {cap0 : Nat} {l : List Rel} {w : World} (h : At (cSlice cRel) w l [.slice a0 l.length cap0]) :
    Calls Try.prog 30 #[.slice a0 l.length cap0] w fun e w' => e = .returned (.bool (validRels l)) ∧ Below w.heap.size w w' := by
  have hm := (slice_len h).2
  unfold maxLen at hm
  unfold validRels
  rw [ascFrom_split]
  obtain ⟨n, hn⟩ : ∃ n : Nat, l.length = n := ⟨_, rfl⟩
  have Hr : Hid (∀ w' : World, Below w.heap.size w w' → ∀ j (hj : j < l.length), _) := fun w' hb j hj => at_Relation (Cod.ok_below h hb) j hj
  have Ha : Hid (∀ ww, Below w.heap.size w ww → Calls Try.prog 38 #[.slice a0 l.length cap0, .func (.func 39) #[] #[]] ww fun e w' => e = .returned (.bool (ascN none l)) ∧ Below ww.heap.size ww w') :=
    fun ww hb => ascNames_c (At.below h hb (Nat.le_refl _))
  have Hn := Lib.hid hn
  rw [hn] at hm Ha ⊢
  clear hn h
  generalize ascN none l = A at *
  generalize hR : l.all validRel = R
  have HR : Hid ((l.drop 0).all validRel = R) := hR
  clear hR
  by_cases h4 : (n : Int) > 4
  · have hd : decide (n ≤ 4) = false := decide_eq_false (by omega)
    rw [hd, Bool.and_false]
    go_enter Try.func30, Try.ntmps30
    go_wp2
    go_ret
    exact ⟨rfl, by go_grown⟩
  · have hd : decide (n ≤ 4) = true := decide_eq_true (by omega)
    rw [hd, Bool.and_true]
    go_enter Try.func30, Try.ntmps30
    go_wp2
    go_loopw [10] (fun iv wr => ∃ k : Nat, k ≤ n ∧ iv = .int .i64 k ∧ Hid ((l.drop k).all validRel = R) ∧ Below w.heap.size w wr) (fun iv _ => n - (intOf iv).toNat)
    case atStart => exact ⟨0, by omega, by go_num, HR, Below.refl _ _⟩
    case round =>
      clear HR
      obtain ⟨k, hk, rfl, Hq, hb⟩ := hrel
      by_cases hlt : k < n
      · have hkl : k < l.length := by rw [Hn.out]; exact hlt
        have Hst := Lib.hid (Hq.out.symm.trans (all_drop validRel l k hkl))
        obtain ⟨b, off, rfl, hbB, c0, c1, c2, hx⟩ := Hr.out _ hb k hkl
        have Hc : Hid (∀ ww, Below w.heap.size w ww → Calls Try.prog 37 #[.agg #[.string l[k].name, .int .i64 l[k].arity, .int .i64 l[k].key]] ww fun e w' => e = .returned (.bool (validRel l[k])) ∧ Below ww.heap.size ww w') :=
          fun ww hw2 => by obtain ⟨_, _, _, _, _, _, _, hx⟩ := Hr.out ww hw2 k hkl; exact implIsValidRelation_c (cRel.keep hx (fun _ _ => rfl) hw2.size)
        clear hx Hq
        generalize validRel l[k] = v at *
        generalize l[k] = r at *
        cases v with
        | true =>
          rw [Bool.true_and] at Hst
          go_wp2_with fail
          refine (Hc.out _ ?hb).mono ?_
          case hb => exact hb.trans (Below.mono (by go_grown) hb.size)
          rintro e w1 ⟨rfl, hb1⟩
          have hbb : Below w.heap.size w w1 := hb.trans (Below.mono (Below.trans (by go_grown) (hb1.mono (by simp; try omega))) hb.size)
          go_wp2
          go_roundw
          case rel => exact ⟨k + 1, by omega, by go_num, Hst.out.symm, hbb⟩
          case measure => simp [intOf]; omega
        | false =>
          have hR : R = false := by have h := Hst.out; rw [Bool.false_and] at h; exact h
          go_wp2_with fail
          refine (Hc.out _ ?hb).mono ?_
          case hb => exact hb.trans (Below.mono (by go_grown) hb.size)
          rintro e w1 ⟨rfl, hb1⟩
          have hbb : Below w.heap.size w w1 := hb.trans (Below.mono (Below.trans (by go_grown) (hb1.mono (by simp; try omega))) hb.size)
          go_wp2
          go_ret
          exact ⟨by rw [hR]; rfl, hbb⟩
      · obtain rfl : k = n := by omega
        have hR : R = true := by
          have := Hq.out
          rw [List.drop_eq_nil_of_le (by rw [Hn.out]; exact Nat.le_refl _)] at this
          exact this.symm
        go_wp2_with fail
        refine (Ha.out _ hb).mono ?_
        rintro e w1 ⟨rfl, hb1⟩
        have hbb : Below w.heap.size w w1 := hb.trans (hb1.mono hb.size)
        go_wp2
        go_ret
        exact ⟨by rw [hR]; rfl, hbb⟩

end Go.Proofs.Ytlcogbmceanghaa
namespace Go.Proofs.Ytlcogbmceanghaa
open Go.RowKit
set_option linter.unusedVariables false
set_option maxRecDepth 100000
theorem isIndex_any (i : Int) (n : Nat) (w : World) :
    Calls Try.prog 40 #[.int .i64 i, .int .i64 n] w fun e w' => e = .returned (.bool (inB i 0 ((n : Int) - 1))) ∧ w = w' := by
  unfold inB
  have e : decide (i ≤ (n : Int) - 1) = decide (i < (n : Int)) := by simp; omega
  rw [e]
  clear e
  by_cases h : 0 ≤ i
  · go_enter Try.func40, Try.ntmps40
    go_wp2
    go_ret
    exact ⟨by simp; try omega, rfl⟩
  · go_enter Try.func40, Try.ntmps40
    go_wp2
    go_ret
    exact ⟨by simp; try omega, rfl⟩
theorem isValue_any (i : Int) (w : World) :
    Calls Try.prog 47 #[.int .i64 i] w fun e w' => e = .returned (.bool (inB i 0 9)) ∧ w = w' := by
  unfold inB
  by_cases h : 0 ≤ i
  · go_enter Try.func47, Try.ntmps47
    go_wp2
    go_ret
    exact ⟨by simp; try omega, rfl⟩
  · go_enter Try.func47, Try.ntmps47
    go_wp2
    go_ret
    exact ⟨by simp; try omega, rfl⟩
end Go.Proofs.Ytlcogbmceanghaa

/- Chapter 3: the program's IsValidFact. -/
namespace Go.Proofs.Ytlcogbmceanghaa
open Go.RowKit
set_option linter.unusedVariables false
set_option maxRecDepth 100000

end Go.Proofs.Ytlcogbmceanghaa
