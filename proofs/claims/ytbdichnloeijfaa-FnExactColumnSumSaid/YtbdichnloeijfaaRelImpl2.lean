/- Chapter 2: the program's functions on relations. -/
import Derived.Test.YtbdichnloeijfaaRelSpec2
import Derived.Lib.Bytealg
import Derived.Test.YtbdichnloeijfaaShelf
namespace Go.Proofs.Ytbdichnloeijfaa
open Go.RowKit
set_option linter.unusedVariables false
set_option maxRecDepth 100000

/-! ### isLetter, IsValidRelation -/
set_option maxHeartbeats 800000 in
theorem isLetter_any {n : ByteArray} (hs : n.size ≤ 9223372036854775807) (w : World) :
    Calls Try.prog 55 #[.string n] w fun e w' => e = .returned (.bool (validName n)) ∧ w = w' := by
  by_cases h1 : n.size = 1
  · have hn := validName_one h1
    have hlt : 0 < n.size := by omega
    have hb := n[0].toNat_lt
    generalize hu : n[0] = u at *
    by_cases h2 : (97 : Int) ≤ (u.toNat : Int)
    · by_cases h3 : (u.toNat : Int) ≤ 122
      · have hn2 : validName n = true := by rw [hn]; simp; omega
        rw [hn2]
        clear hn hn2
        go_enter Try.func55, Try.ntmps55
        go_wp2
        go_ret
        exact ⟨rfl, rfl⟩
      · have hn2 : validName n = false := by rw [hn]; simp; omega
        rw [hn2]
        clear hn hn2
        go_enter Try.func55, Try.ntmps55
        go_wp2
        go_ret
        exact ⟨rfl, rfl⟩
    · have hn2 : validName n = false := by rw [hn]; simp; omega
      rw [hn2]
      clear hn hn2
      go_enter Try.func55, Try.ntmps55
      go_wp2
      go_ret
      exact ⟨rfl, rfl⟩
  · rw [validName_not h1]
    have h2 : ((n.size : Int) == 1) = false := by simp; omega
    go_enter Try.func55, Try.ntmps55
    go_wp2
    go_ret
    exact ⟨rfl, rfl⟩
set_option maxHeartbeats 1600000 in
theorem implIsValidRelation_c {r : Rel} {w : World} (h : At cRel w r [.string r.name, .int .i64 r.arity, .int .i64 r.key]) :
    Calls Try.prog 49 #[.agg #[.string r.name, .int .i64 r.arity, .int .i64 r.key]] w fun e w' => e = .returned (.bool (validRel r)) ∧ Below w.heap.size w w' := by
  have hr := (cRel_inv h).2.1
  clear h
  obtain ⟨n, a, k⟩ := r
  unfold maxLen at hr
  simp only [validRel, inB] at *
  have H := fun ww => isLetter_any (n := n) (by omega) ww
  generalize validName n = v at *
  cases v with
  | false =>
    rw [Bool.false_and]
    go_enter Try.func49, Try.ntmps49
    go_wp2_with (go_at_call 55; refine (H _).mono ?_; rintro e w' ⟨rfl, rfl⟩)
    go_ret
    exact ⟨rfl, by go_grown⟩
  | true =>
    rw [Bool.true_and]
    by_cases h1 : (1 : Int) ≤ a <;> by_cases h2 : a ≤ 3 <;> by_cases h3 : (0 : Int) ≤ k
    all_goals try (exfalso; omega)
    all_goals
      go_enter Try.func49, Try.ntmps49
      go_wp2_with (go_at_call 55; refine (H _).mono ?_; rintro e w' ⟨rfl, rfl⟩)
    all_goals
      go_ret
      exact ⟨by first | (simp [h1, h2, h3]; done) | (simp; omega), by go_grown⟩

/-! ### names in ascending order -/
/-- Names ascending, behind a name. -/
def ascN : Option ByteArray → List Rel → Bool
  | _, [] => true
  | p, r :: l => okPrev p r.name && ascN (some r.name) l
theorem ascN_step (l : List Rel) (k : Nat) (hk : k < l.length) : ascN (prevOf l k) (l.drop k) = (okPrev (prevOf l k) l[k].name && ascN (prevOf l (k + 1)) (l.drop (k + 1))) := by
  rw [List.drop_eq_getElem_cons hk]
  simp [ascN, prevOf, hk]
theorem ascN_start (l : List Rel) : ascN none l = ascN (prevOf l 1) (l.drop 1) := by
  cases l with
  | nil => rfl
  | cons r l => simp [ascN, prevOf, okPrev]
theorem ascFrom_split : ∀ (l : List Rel) (p : Option ByteArray), ascFrom p l = (l.all validRel && ascN p l)
  | [], _ => rfl
  | r :: l, p => by
    simp only [ascFrom, ascN, List.all_cons, ascFrom_split l]
    cases validRel r <;> cases okPrev p r.name <;> cases l.all validRel <;> simp
theorem cmpB_list : ∀ (x y : List UInt8), decide (Lib.compareBytes x y ≥ 0) = !Op.bytesLess x y
  | [], [] => rfl
  | [], _ :: _ => rfl
  | _ :: _, [] => rfl
  | a :: x, b :: y => by
    rw [Lib.compareBytes, Op.bytesLess]
    by_cases h : a < b
    · simp [h]
    · by_cases h2 : b < a
      · have h3 : (a == b) = false := by
          simp only [beq_eq_false_iff_ne, ne_eq]
          intro e; subst e; exact h h2
        rw [if_neg h, if_pos h2, h3, decide_eq_false h]; rfl
      · have h3 : a = b := by
          apply UInt8.toNat_inj.mp
          have h4 : ¬ a.toNat < b.toNat := h
          have h5 : ¬ b.toNat < a.toNat := h2
          omega
        subst h3
        rw [if_neg h, if_neg h, cmpB_list x y, decide_eq_false h]; simp
theorem cmpB_lt (a b : ByteArray) : decide (Lib.compareBytes a.data.toList b.data.toList ≥ 0) = !Op.bytesLess a.toList b.toList := by
  rw [Lib.toList_data, Lib.toList_data]; exact cmpB_list _ _
theorem compareNames_c {n m : ByteArray} {a k a' k' : Int} (w : World) :
    Calls Try.prog 51 #[.agg #[.string n, .int .i64 a, .int .i64 k], .agg #[.string m, .int .i64 a', .int .i64 k']] w fun e w' => e = .returned (.int .i64 (Lib.compareBytes n.data.toList m.data.toList)) ∧ Below w.heap.size w w' := by
  generalize hz : Lib.compareBytes n.data.toList m.data.toList = z
  have H : ∀ ww, Calls Try.prog 56 #[.string n, .string m] ww fun e w' => e = .returned (.int .i64 z) ∧ w' = ww := fun ww => hz ▸ Try.strings_Compare n m ww
  clear hz
  go_enter Try.func51, Try.ntmps51
  go_wp2_with (go_at_call 56; refine (H _).mono ?_; rintro e w' ⟨rfl, rfl⟩)
  go_ret
  exact ⟨rfl, by go_grown⟩

set_option maxHeartbeats 1600000 in
theorem ascNames_c {a0 : Option Addr} {cap0 : Nat} {l : List Rel} {w : World} (h : At (cSlice cRel) w l [.slice a0 l.length cap0]) :
    Calls Try.prog 50 #[.slice a0 l.length cap0, .func (.func 51) #[] #[]] w fun e w' => e = .returned (.bool (ascN none l)) ∧ Below w.heap.size w w' := by
  have hm := (slice_len h).2
  unfold maxLen at hm
  obtain ⟨n, hn⟩ : ∃ n : Nat, l.length = n := ⟨_, rfl⟩
  have Hr : Hid (∀ w' : World, Below w.heap.size w w' → ∀ j (hj : j < l.length), _) := fun w' hb j hj => at_Relation (Cod.ok_below h hb) j hj
  have Hn := Lib.hid hn
  rw [hn] at hm ⊢
  clear hn h
  generalize hR : ascN none l = R
  rw [ascN_start] at hR
  have HR : Hid (ascN (prevOf l 1) (l.drop 1) = R) := hR
  clear hR
  go_enter Try.func50, Try.ntmps50
  go_wp2
  go_loopw [5] (fun iv wr => ∃ k : Nat, (k ≤ n ∨ k = 1) ∧ 1 ≤ k ∧ iv = .int .i64 k ∧ Hid (ascN (prevOf l k) (l.drop k) = R) ∧ Below w.heap.size w wr) (fun iv _ => n - (intOf iv).toNat)
  case atStart => exact ⟨1, by omega, by omega, by go_num, HR, Below.refl _ _⟩
  case round =>
    clear HR
    obtain ⟨k, hk, hk1, rfl, Hq, hb⟩ := hrel
    by_cases hlt : k < n
    · have hkl : k < l.length := by rw [Hn.out]; exact hlt
      obtain ⟨j, hj⟩ : ∃ j, k = j + 1 := ⟨k - 1, by omega⟩
      have hjl : j < l.length := by omega
      have hp : okPrev (prevOf l k) l[k].name = Op.bytesLess l[j].name.toList l[k].name.toList := by subst hj; exact okPrev_succ l j hjl _
      have Hst := Lib.hid (Hq.out.symm.trans (ascN_step l k hkl))
      rw [hp] at Hst
      obtain ⟨b, off, rfl, hbB, c0, c1, c2, hx⟩ := Hr.out _ hb k hkl
      obtain ⟨b', off', e', hbB', p0, p1, p2, hxp⟩ := Hr.out _ hb j hjl
      obtain ⟨rfl, rfl⟩ : b = b' ∧ off = off' := by simp at e'; exact e'
      have C0 := grow_cell c0
      have C1 := grow_cell c1
      have C2 := grow_cell c2
      have D0 := grow_cell p0
      have D1 := grow_cell p1
      have D2 := grow_cell p2
      have hwj : wrap64 ((k : Int) - 1) = (j : Int) := by rw [IntWalk.wrap64_in _ ⟨by omega, by omega⟩]; omega
      have hkj : (k : Int) - 1 = (j : Int) := by omega
      have hjn : (j : Int) < n := by omega
      have hz := cmpB_lt l[j].name l[k].name
      have Hc := fun ww => compareNames_c (n := l[j].name) (m := l[k].name) (a := l[j].arity) (k := l[j].key) (a' := l[k].arity) (k' := l[k].key) ww
      have Hj := Lib.hid hj
      clear hj e' hxp hx hp hbB' hbB p0 p1 p2 c0 c1 c2 Hq
      generalize l[j] = q at *
      generalize l[k] = r at *
      generalize Op.bytesLess q.name.toList r.name.toList = z at *
      generalize Lib.compareBytes q.name.data.toList r.name.data.toList = zz at *
      cases z with
      | true =>
        rw [Bool.not_true] at hz
        go_wp2_with fail
        refine wp_region_grow (by kernel_rfl) (by kernel_rfl) ?_
        repeat (go_big_quiet_step ((go_at_call 51; exact Calls.grow fun ww h => Hc ww)))
        refine wpQuiet_nil ?_
        rintro _ ⟨nq, rfl⟩
        go_wp2
        go_roundw
        case rel => exact ⟨k + 1, by omega, by omega, by go_num, by have h := Hst.out; rw [Bool.true_and] at h; exact h.symm, hb.trans (nq.below.mono hb.size)⟩
        case measure => simp [intOf]; omega
      | false =>
        rw [Bool.not_false] at hz
        have hR : R = false := by have h := Hst.out; rw [Bool.false_and] at h; exact h
        go_wp2_with fail
        refine wp_region_grow (by kernel_rfl) (by kernel_rfl) ?_
        repeat (go_big_quiet_step ((go_at_call 51; exact Calls.grow fun ww h => Hc ww)))
        refine wpQuiet_nil ?_
        rintro _ ⟨nq, rfl⟩
        go_wp2
        go_ret
        exact ⟨by rw [hR]; rfl, hb.trans (nq.below.mono hb.size)⟩
    · have hR : R = true := by
        have := Hq.out
        rw [List.drop_eq_nil_of_le (by rw [Hn.out]; omega)] at this
        exact this.symm
      go_wp2
      go_ret
      exact ⟨by rw [hR]; rfl, hb⟩
end Go.Proofs.Ytbdichnloeijfaa

