/- Chapter 2: the model's functions on relations. -/
import Derived.Test.YtbdichnloeijfaaTyTwo
import Derived.Test.YtbdichnloeijfaaIn
import Derived.BigRegion
import Derived.Test.YtbdichnloeijfaaGrow
namespace Go.Proofs.Ytbdichnloeijfaa
open Go.RowKit
set_option linter.unusedVariables false
set_option maxRecDepth 100000

/-- One letter from a to z. -/
def validName (n : ByteArray) : Bool := if h : n.size = 1 then decide (97 ≤ n[0].toNat) && decide (n[0].toNat ≤ 122) else false
/-- A valid relation. -/
def validRel (r : Rel) : Bool := validName r.name && (inB r.arity 1 3 && inB r.key 0 r.arity)
theorem validName_one {n : ByteArray} (h : n.size = 1) : validName n = (decide (97 ≤ n[0].toNat) && decide (n[0].toNat ≤ 122)) := by unfold validName; rw [dif_pos h]
theorem validName_not {n : ByteArray} (h : n.size ≠ 1) : validName n = false := by unfold validName; rw [dif_neg h]
set_option maxHeartbeats 800000 in
theorem specIsValidRelation_c {r : Rel} {w : World} (h : At cRel w r [.string r.name, .int .i64 r.arity, .int .i64 r.key]) :
    Calls Try.prog 48 #[.agg #[.string r.name, .int .i64 r.arity, .int .i64 r.key]] w fun e w' => e = .returned (.bool (validRel r)) ∧ Below w.heap.size w w' := by
  have hr := (cRel_inv h).2.1
  clear h
  obtain ⟨n, a, k⟩ := r
  unfold maxLen at hr
  simp only [validRel] at *
  by_cases h1 : n.size = 1
  · have hn := validName_one h1
    have hlt : 0 < n.size := by omega
    have hb := n[0].toNat_lt
    generalize hu : n[0] = u at *
    by_cases h2 : (97 : Int) ≤ (u.toNat : Int)
    · by_cases h3 : (u.toNat : Int) ≤ 122
      · have hn2 : validName n = true := by rw [hn]; simp; omega
        rw [hn2, Bool.true_and]
        clear hn hn2
        cases hi : inB a 1 3 with
        | true =>
          rw [Bool.true_and]
          go_enter Try.func48, Try.ntmps48
          go_wp2_with (go_at_call 26; refine (l1In_any _ _ _ _).mono ?_; rintro e w' ⟨rfl, rfl⟩)
          go_ret
          exact ⟨rfl, by go_grown⟩
        | false =>
          rw [Bool.false_and]
          go_enter Try.func48, Try.ntmps48
          go_wp2_with (go_at_call 26; refine (l1In_any _ _ _ _).mono ?_; rintro e w' ⟨rfl, rfl⟩)
          go_ret
          exact ⟨rfl, by go_grown⟩
      · have hn2 : validName n = false := by rw [hn]; simp; omega
        rw [hn2, Bool.false_and]
        clear hn hn2
        go_enter Try.func48, Try.ntmps48
        go_wp2_with (go_at_call 26; refine (l1In_any _ _ _ _).mono ?_; rintro e w' ⟨rfl, rfl⟩)
        go_ret
        exact ⟨rfl, by go_grown⟩
    · have hn2 : validName n = false := by rw [hn]; simp; omega
      rw [hn2, Bool.false_and]
      clear hn hn2
      go_enter Try.func48, Try.ntmps48
      go_wp2_with (go_at_call 26; refine (l1In_any _ _ _ _).mono ?_; rintro e w' ⟨rfl, rfl⟩)
      go_ret
      exact ⟨rfl, by go_grown⟩
  · rw [validName_not h1, Bool.false_and]
    have h2 : ((n.size : Int) == 1) = false := by simp; omega
    go_enter Try.func48, Try.ntmps48
    go_wp2_with (go_at_call 26; refine (l1In_any _ _ _ _).mono ?_; rintro e w' ⟨rfl, rfl⟩)
    go_ret
    exact ⟨rfl, by go_grown⟩

/-- The name before place k. -/
def prevOf (l : List Rel) : Nat → Option ByteArray
  | 0 => none
  | k + 1 => l[k]?.map Rel.name
/-- A name after the one before. -/
def okPrev : Option ByteArray → ByteArray → Bool
  | none, _ => true
  | some q, n => Op.bytesLess q.toList n.toList
/-- Valid relations, ascending from a name on. -/
def ascFrom : Option ByteArray → List Rel → Bool
  | _, [] => true
  | p, r :: l => validRel r && (okPrev p r.name && ascFrom (some r.name) l)
def validRels (l : List Rel) : Bool := ascFrom none l && decide (l.length ≤ 4)
theorem ascFrom_step (l : List Rel) (k : Nat) (hk : k < l.length) : ascFrom (prevOf l k) (l.drop k) = (validRel l[k] && (okPrev (prevOf l k) l[k].name && ascFrom (prevOf l (k + 1)) (l.drop (k + 1)))) := by
  rw [List.drop_eq_getElem_cons hk]
  simp [ascFrom, prevOf, hk]
theorem okPrev_succ (l : List Rel) (k : Nat) (hk : k < l.length) (n : ByteArray) : okPrev (prevOf l (k + 1)) n = Op.bytesLess l[k].name.toList n.toList := by
  simp [prevOf, hk, okPrev]

set_option maxHeartbeats 1600000 in
theorem specAreValidRelations_c {a0 : Option Addr} {cap0 : Nat} {l : List Rel} {w : World} (h : At (cSlice cRel) w l [.slice a0 l.length cap0]) :
    Calls Try.prog 39 #[.slice a0 l.length cap0] w fun e w' => e = .returned (.bool (validRels l)) ∧ Below w.heap.size w w' := by
  have hm := (slice_len h).2
  unfold maxLen at hm
  unfold validRels
  obtain ⟨n, hn⟩ : ∃ n : Nat, l.length = n := ⟨_, rfl⟩
  have Hr : Hid (∀ w' : World, Below w.heap.size w w' → ∀ j (hj : j < l.length), _) := fun w' hb j hj => at_Relation (Cod.ok_below h hb) j hj
  have Hn := Lib.hid hn
  rw [hn] at hm ⊢
  clear hn h
  generalize hR : ascFrom none l = R
  have HR : Hid (ascFrom (prevOf l 0) (l.drop 0) = R) := hR
  clear hR
  go_enter Try.func39, Try.ntmps39
  go_wp2
  go_loopw [3] (fun iv wr => ∃ k : Nat, k ≤ n ∧ iv = .int .i64 k ∧ Hid (ascFrom (prevOf l k) (l.drop k) = R) ∧ Below w.heap.size w wr) (fun iv _ => n - (intOf iv).toNat)
  case atStart => exact ⟨0, by omega, by go_num, HR, Below.refl _ _⟩
  case round =>
    clear HR
    obtain ⟨k, hk, rfl, Hq, hb⟩ := hrel
    by_cases hlt : k < n
    · have hkl : k < l.length := by rw [Hn.out]; exact hlt
      have Hst := Lib.hid (Hq.out.symm.trans (ascFrom_step l k hkl))
      obtain ⟨b, off, rfl, hbB, c0, c1, c2, hx⟩ := Hr.out _ hb k hkl
      have Hc : Hid (∀ ww, Below w.heap.size w ww → Calls Try.prog 48 #[.agg #[.string l[k].name, .int .i64 l[k].arity, .int .i64 l[k].key]] ww fun e w' => e = .returned (.bool (validRel l[k])) ∧ Below ww.heap.size ww w') :=
        fun ww hw2 => by obtain ⟨_, _, _, _, _, _, _, hx⟩ := Hr.out ww hw2 k hkl; exact specIsValidRelation_c (cRel.keep hx (fun _ _ => rfl) hw2.size)
      have C0 := grow_cell c0
      have C1 := grow_cell c1
      have C2 := grow_cell c2
      clear hx Hq
      rcases Nat.eq_zero_or_pos k with hk0 | hk0
      · have hg : decide ((0 : Int) < (k : Int)) = false := decide_eq_false (by omega)
        have hg2 : decide (0 < k) = false := decide_eq_false (by omega)
        have hp : okPrev (prevOf l k) l[k].name = true := by subst hk0; rfl
        rw [hp, Bool.true_and] at Hst
        clear hp hk0
        generalize validRel l[k] = v at *
        generalize l[k] = r at *
        cases v with
        | true =>
          go_wp2_with fail
          refine wp_region_grow (by kernel_rfl) (by kernel_rfl) ?_
          repeat (go_big_quiet_step ((go_at_call 48; exact Calls.grow fun ww h => Hc.out ww (hb.trans (h.mono hb.size)))))
          refine wpQuiet_nil ?_
          rintro _ ⟨nq, rfl⟩
          go_wp2
          go_roundw
          case rel => exact ⟨k + 1, by omega, by go_num, by have h := Hst.out; rw [Bool.true_and] at h; exact h.symm, hb.trans (nq.below.mono hb.size)⟩
          case measure => simp [intOf]; omega
        | false =>
          have hR : R = false := by have h := Hst.out; rw [Bool.false_and] at h; exact h
          go_wp2_with fail
          refine wp_region_grow (by kernel_rfl) (by kernel_rfl) ?_
          repeat (go_big_quiet_step ((go_at_call 48; exact Calls.grow fun ww h => Hc.out ww (hb.trans (h.mono hb.size)))))
          refine wpQuiet_nil ?_
          rintro _ ⟨nq, rfl⟩
          go_wp2
          go_ret
          exact ⟨by rw [hR]; rfl, hb.trans (nq.below.mono hb.size)⟩
      · have hg : decide ((0 : Int) < (k : Int)) = true := decide_eq_true (by omega)
        have hg2 : decide (0 < k) = true := decide_eq_true (by omega)
        obtain ⟨j, hj⟩ : ∃ j, k = j + 1 := ⟨k - 1, by omega⟩
        have hjl : j < l.length := by omega
        have hp : okPrev (prevOf l k) l[k].name = Op.bytesLess l[j].name.toList l[k].name.toList := by subst hj; exact okPrev_succ l j hjl _
        rw [hp] at Hst
        clear hp hk0
        obtain ⟨b', off', e', hbB', p0, p1, p2, hxp⟩ := Hr.out _ hb j hjl
        obtain ⟨rfl, rfl⟩ : b = b' ∧ off = off' := by simp at e'; exact e'
        have hwj : wrap64 ((k : Int) - 1) = (j : Int) := by rw [IntWalk.wrap64_in _ ⟨by omega, by omega⟩]; omega
        have hkj : (k : Int) - 1 = (j : Int) := by omega
        have D0 := grow_cell p0
        have hjn : (j : Int) < n := by omega
        have Hj := Lib.hid hj
        clear hj e' hxp hbB' p0 p1 p2
        generalize validRel l[k] = v at *
        generalize l[j] = q at *
        generalize l[k] = r at *
        generalize hlt' : Op.bytesLess q.name.toList r.name.toList = z at *
        cases v with
        | true =>
          rw [Bool.true_and] at Hst
          cases z with
          | true =>
            go_wp2_with fail
            refine wp_region_grow (by kernel_rfl) (by kernel_rfl) ?_
            repeat (go_big_quiet_step ((go_at_call 48; exact Calls.grow fun ww h => Hc.out ww (hb.trans (h.mono hb.size)))))
            refine wpQuiet_nil ?_
            rintro _ ⟨nq, rfl⟩
            go_wp2
            go_roundw
            case rel => exact ⟨k + 1, by omega, by go_num, by have h := Hst.out; rw [Bool.true_and] at h; exact h.symm, hb.trans (nq.below.mono hb.size)⟩
            case measure => simp [intOf]; omega
          | false =>
            have hR : R = false := by have h := Hst.out; rw [Bool.false_and] at h; exact h
            go_wp2_with fail
            refine wp_region_grow (by kernel_rfl) (by kernel_rfl) ?_
            repeat (go_big_quiet_step ((go_at_call 48; exact Calls.grow fun ww h => Hc.out ww (hb.trans (h.mono hb.size)))))
            refine wpQuiet_nil ?_
            rintro _ ⟨nq, rfl⟩
            go_wp2
            go_ret
            exact ⟨by rw [hR]; rfl, hb.trans (nq.below.mono hb.size)⟩
        | false =>
          have hR : R = false := by have h := Hst.out; rw [Bool.false_and] at h; exact h
          go_wp2_with fail
          refine wp_region_grow (by kernel_rfl) (by kernel_rfl) ?_
          repeat (go_big_quiet_step ((go_at_call 48; exact Calls.grow fun ww h => Hc.out ww (hb.trans (h.mono hb.size)))))
          refine wpQuiet_nil ?_
          rintro _ ⟨nq, rfl⟩
          go_wp2
          go_ret
          exact ⟨by rw [hR]; rfl, hb.trans (nq.below.mono hb.size)⟩
    · obtain rfl : k = n := by omega
      have hR : R = true := by
        have := Hq.out
        rw [List.drop_eq_nil_of_le (by rw [Hn.out]; exact Nat.le_refl _)] at this
        exact this.symm
      by_cases h4 : (k : Int) ≤ 4
      · go_wp2
        go_ret
        exact ⟨by show Ending.returned (.bool _) = _; rw [hR]; simp; omega, hb⟩
      · go_wp2
        go_ret
        exact ⟨by show Ending.returned (.bool _) = _; simp; omega, hb⟩

/-- The place of the first relation of a name, counted from i, or -1. -/
def idxFrom : List Rel → ByteArray → Int → Int
  | [], _, _ => -1
  | r :: l, s, i => if r.name = s then i else idxFrom l s (i + 1)
def relIdx (l : List Rel) (s : ByteArray) : Int := idxFrom l s 0
theorem idxFrom_step (l : List Rel) (s : ByteArray) (k : Nat) (hk : k < l.length) (i : Int) : idxFrom (l.drop k) s i = if l[k].name = s then i else idxFrom (l.drop (k + 1)) s (i + 1) := by
  rw [List.drop_eq_getElem_cons hk]; rfl
theorem name_beq (n s : ByteArray) : (n.toList == s.toList) = decide (n = s) := by
  by_cases h : n = s
  · subst h; simp
  · rw [decide_eq_false h, Lib.toList_data, Lib.toList_data]
    simp only [beq_eq_false_iff_ne, ne_eq]
    intro e; exact h (by rw [str_of n, str_of s, e])
end Go.Proofs.Ytbdichnloeijfaa
