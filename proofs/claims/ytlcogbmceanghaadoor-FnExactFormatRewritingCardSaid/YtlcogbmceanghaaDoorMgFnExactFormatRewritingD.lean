/- Texts behind FnExactFormatRewriting, put together. -/
import Derived.Test.YtlcogbmceanghaaDoorMgFnExactFormatRewritingC
set_option linter.unusedSimpArgs false
set_option linter.unusedVariables false
set_option linter.unusedSectionVars false
set_option linter.constructorNameAsVariable false
set_option maxRecDepth 100000
open Nat (reduceLT reduceAdd reduceMul reduceLeDiff reduceSub reduceEqDiff)
namespace Go.Proofs.YtlcogbmceanghaaDoor
section
/- RelOne: In RelSpec2 FactSpec RelImpl2 RelImpl3 FactImpl FactImpl2. -/
/- Between two bounds: the model's test. -/
open Go.RowKit
def inB (n lo hi : Int) : Bool := decide (lo ≤ n) && decide (n ≤ hi)
theorem l1In_any (n lo hi : Int) (w : World) :
   Calls Tryd.prog 67 #[.int .i64 n, .int .i64 lo, .int .i64 hi] w fun e w' => e = .returned (.bool (inB n lo hi)) ∧ w = w' := by
 unfold inB
 by_cases h : lo ≤ n
 · go_enter Tryd.func67, Tryd.ntmps67
   go_wp2
   go_ret
   exact ⟨by simp; omega, rfl⟩
 · go_enter Tryd.func67, Tryd.ntmps67
   go_wp2
   go_ret
   exact ⟨by simp; omega, rfl⟩
/- Chapter 2: the model's functions on relations. -/
open Go.RowKit
def validName (n : ByteArray) : Bool := if h : n.size = 1 then decide (97 ≤ n[0].toNat) && decide (n[0].toNat ≤ 122) else false
def validRel (r : Rel) : Bool := validName r.name && (inB r.arity 1 3 && inB r.key 0 r.arity)
theorem validName_one {n : ByteArray} (h : n.size = 1) : validName n = (decide (97 ≤ n[0].toNat) && decide (n[0].toNat ≤ 122)) := by unfold validName; rw [dif_pos h]
theorem validName_not {n : ByteArray} (h : n.size ≠ 1) : validName n = false := by unfold validName; rw [dif_neg h]
set_option maxHeartbeats 800000 in
theorem specIsValidRelation_c {r : Rel} {w : World} (h : At cRel w r [.string r.name, .int .i64 r.arity, .int .i64 r.key]) :
   Calls Tryd.prog 112 #[.agg #[.string r.name, .int .i64 r.arity, .int .i64 r.key]] w fun e w' => e = .returned (.bool (validRel r)) ∧ Below w.heap.size w w' := by
 have hr := (cRel_inv h).2.1
 clear h
 obtain ⟨n, a, k⟩ := r
 unfold maxLen at hr
 simp only [validRel] at *
 by_cases h1 : n.size = 1
 · have hn := validName_one h1
   have hlt : 0 < n.size := by omega
   have hb := n[0].toNat_lt
   generalize hu : n[0] = u at *
   by_cases h2 : (97 : Int) ≤ (u.toNat : Int)
   · by_cases h3 : (u.toNat : Int) ≤ 122
     · have hn2 : validName n = true := by rw [hn]; simp; omega
       rw [hn2, Bool.true_and]
       clear hn hn2
       cases hi : inB a 1 3 with
       | true =>
         rw [Bool.true_and]
         go_enter Tryd.func112, Tryd.ntmps112
         go_wp2_with (go_at_call 67; refine (l1In_any _ _ _ _).mono ?_; rintro e w' ⟨rfl, rfl⟩)
         go_ret
         exact ⟨rfl, by go_grown⟩
       | false =>
         rw [Bool.false_and]
         go_enter Tryd.func112, Tryd.ntmps112
         go_wp2_with (go_at_call 67; refine (l1In_any _ _ _ _).mono ?_; rintro e w' ⟨rfl, rfl⟩)
         go_ret
         exact ⟨rfl, by go_grown⟩
     · have hn2 : validName n = false := by rw [hn]; simp; omega
       rw [hn2, Bool.false_and]
       clear hn hn2
       go_enter Tryd.func112, Tryd.ntmps112
       go_wp2_with (go_at_call 67; refine (l1In_any _ _ _ _).mono ?_; rintro e w' ⟨rfl, rfl⟩)
       go_ret
       exact ⟨rfl, by go_grown⟩
   · have hn2 : validName n = false := by rw [hn]; simp; omega
     rw [hn2, Bool.false_and]
     clear hn hn2
     go_enter Tryd.func112, Tryd.ntmps112
     go_wp2_with (go_at_call 67; refine (l1In_any _ _ _ _).mono ?_; rintro e w' ⟨rfl, rfl⟩)
     go_ret
     exact ⟨rfl, by go_grown⟩
 · rw [validName_not h1, Bool.false_and]
   have h2 : ((n.size : Int) == 1) = false := by simp; omega
   go_enter Tryd.func112, Tryd.ntmps112
   go_wp2_with (go_at_call 67; refine (l1In_any _ _ _ _).mono ?_; rintro e w' ⟨rfl, rfl⟩)
   go_ret
   exact ⟨rfl, by go_grown⟩
def prevOf (l : List Rel) : Nat → Option ByteArray
 | 0 => none
 | k + 1 => l[k]?.map Rel.name
def okPrev : Option ByteArray → ByteArray → Bool
 | none, _ => true
 | some q, n => Op.bytesLess q.toList n.toList
def ascFrom : Option ByteArray → List Rel → Bool
 | _, [] => true
 | p, r :: l => validRel r && (okPrev p r.name && ascFrom (some r.name) l)
def validRels (l : List Rel) : Bool := ascFrom none l && decide (l.length ≤ 4)
theorem ascFrom_step (l : List Rel) (k : Nat) (hk : k < l.length) : ascFrom (prevOf l k) (l.drop k) = (validRel l[k] && (okPrev (prevOf l k) l[k].name && ascFrom (prevOf l (k + 1)) (l.drop (k + 1)))) := by
 rw [List.drop_eq_getElem_cons hk]
 simp [ascFrom, prevOf, hk]
theorem okPrev_succ (l : List Rel) (k : Nat) (hk : k < l.length) (n : ByteArray) : okPrev (prevOf l (k + 1)) n = Op.bytesLess l[k].name.toList n.toList := by
 simp [prevOf, hk, okPrev]
set_option maxHeartbeats 1600000 in
theorem specAreValidRelations_c {a0 : Option Addr} {cap0 : Nat} {l : List Rel} {w : World} (h : At (cSlice cRel) w l [.slice a0 l.length cap0]) :
   Calls Tryd.prog 94 #[.slice a0 l.length cap0] w fun e w' => e = .returned (.bool (validRels l)) ∧ Below w.heap.size w w' := by
 have hm := (slice_len h).2
 unfold maxLen at hm
 unfold validRels
 obtain ⟨n, hn⟩ : ∃ n : Nat, l.length = n := ⟨_, rfl⟩
 have Hr : Hid (∀ w' : World, Below w.heap.size w w' → ∀ j (hj : j < l.length), _) := fun w' hb j hj => at_Relation (Cod.ok_below h hb) j hj
 have Hn := Lib.hid hn
 rw [hn] at hm ⊢
 clear hn h
 generalize hR : ascFrom none l = R
 have HR : Hid (ascFrom (prevOf l 0) (l.drop 0) = R) := hR
 clear hR
 go_enter Tryd.func94, Tryd.ntmps94
 go_wp2
 go_loopw [3] (fun iv wr => ∃ k : Nat, k ≤ n ∧ iv = .int .i64 k ∧ Hid (ascFrom (prevOf l k) (l.drop k) = R) ∧ Below w.heap.size w wr) (fun iv _ => n - (intOf iv).toNat)
 case atStart => exact ⟨0, by omega, by go_num, HR, Below.refl _ _⟩
 case round =>
   clear HR
   obtain ⟨k, hk, rfl, Hq, hb⟩ := hrel
   by_cases hlt : k < n
   · have hkl : k < l.length := by rw [Hn.out]; exact hlt
     have Hst := Lib.hid (Hq.out.symm.trans (ascFrom_step l k hkl))
     obtain ⟨b, off, rfl, hbB, c0, c1, c2, hx⟩ := Hr.out _ hb k hkl
     have Hc : Hid (∀ ww, Below w.heap.size w ww → Calls Tryd.prog 112 #[.agg #[.string l[k].name, .int .i64 l[k].arity, .int .i64 l[k].key]] ww fun e w' => e = .returned (.bool (validRel l[k])) ∧ Below ww.heap.size ww w') :=
       fun ww hw2 => by obtain ⟨_, _, _, _, _, _, _, hx⟩ := Hr.out ww hw2 k hkl; exact specIsValidRelation_c (cRel.keep hx (fun _ _ => rfl) hw2.size)
     have C0 := grow_cell c0
     have C1 := grow_cell c1
     have C2 := grow_cell c2
     clear hx Hq
     rcases Nat.eq_zero_or_pos k with hk0 | hk0
     · have hg : decide ((0 : Int) < (k : Int)) = false := decide_eq_false (by omega)
       have hg2 : decide (0 < k) = false := decide_eq_false (by omega)
       have hp : okPrev (prevOf l k) l[k].name = true := by subst hk0; rfl
       rw [hp, Bool.true_and] at Hst
       clear hp hk0
       generalize validRel l[k] = v at *
       generalize l[k] = r at *
       cases v with
       | true =>
         go_wp2_with fail
         refine wp_region_grow (by kernel_rfl) (by kernel_rfl) ?_
         repeat (go_big_quiet_step ((go_at_call 112; exact Calls.grow fun ww h => Hc.out ww (hb.trans (h.mono hb.size)))))
         refine wpQuiet_nil ?_
         rintro _ ⟨nq, rfl⟩
         go_wp2
         go_roundw
         case rel => exact ⟨k + 1, by omega, by go_num, by have h := Hst.out; rw [Bool.true_and] at h; exact h.symm, hb.trans (nq.below.mono hb.size)⟩
         case measure => simp [intOf]; omega
       | false =>
         have hR : R = false := by have h := Hst.out; rw [Bool.false_and] at h; exact h
         go_wp2_with fail
         refine wp_region_grow (by kernel_rfl) (by kernel_rfl) ?_
         repeat (go_big_quiet_step ((go_at_call 112; exact Calls.grow fun ww h => Hc.out ww (hb.trans (h.mono hb.size)))))
         refine wpQuiet_nil ?_
         rintro _ ⟨nq, rfl⟩
         go_wp2
         go_ret
         exact ⟨by rw [hR]; rfl, hb.trans (nq.below.mono hb.size)⟩
     · have hg : decide ((0 : Int) < (k : Int)) = true := decide_eq_true (by omega)
       have hg2 : decide (0 < k) = true := decide_eq_true (by omega)
       obtain ⟨j, hj⟩ : ∃ j, k = j + 1 := ⟨k - 1, by omega⟩
       have hjl : j < l.length := by omega
       have hp : okPrev (prevOf l k) l[k].name = Op.bytesLess l[j].name.toList l[k].name.toList := by subst hj; exact okPrev_succ l j hjl _
       rw [hp] at Hst
       clear hp hk0
       obtain ⟨b', off', e', hbB', p0, p1, p2, hxp⟩ := Hr.out _ hb j hjl
       obtain ⟨rfl, rfl⟩ : b = b' ∧ off = off' := by simp at e'; exact e'
       have hwj : wrap64 ((k : Int) - 1) = (j : Int) := by rw [IntWalk.wrap64_in _ ⟨by omega, by omega⟩]; omega
       have hkj : (k : Int) - 1 = (j : Int) := by omega
       have D0 := grow_cell p0
       have hjn : (j : Int) < n := by omega
       have Hj := Lib.hid hj
       clear hj e' hxp hbB' p0 p1 p2
       generalize validRel l[k] = v at *
       generalize l[j] = q at *
       generalize l[k] = r at *
       generalize hlt' : Op.bytesLess q.name.toList r.name.toList = z at *
       cases v with
       | true =>
         rw [Bool.true_and] at Hst
         cases z with
         | true =>
           go_wp2_with fail
           refine wp_region_grow (by kernel_rfl) (by kernel_rfl) ?_
           repeat (go_big_quiet_step ((go_at_call 112; exact Calls.grow fun ww h => Hc.out ww (hb.trans (h.mono hb.size)))))
           refine wpQuiet_nil ?_
           rintro _ ⟨nq, rfl⟩
           go_wp2
           go_roundw
           case rel => exact ⟨k + 1, by omega, by go_num, by have h := Hst.out; rw [Bool.true_and] at h; exact h.symm, hb.trans (nq.below.mono hb.size)⟩
           case measure => simp [intOf]; omega
         | false =>
           have hR : R = false := by have h := Hst.out; rw [Bool.false_and] at h; exact h
           go_wp2_with fail
           refine wp_region_grow (by kernel_rfl) (by kernel_rfl) ?_
           repeat (go_big_quiet_step ((go_at_call 112; exact Calls.grow fun ww h => Hc.out ww (hb.trans (h.mono hb.size)))))
           refine wpQuiet_nil ?_
           rintro _ ⟨nq, rfl⟩
           go_wp2
           go_ret
           exact ⟨by rw [hR]; rfl, hb.trans (nq.below.mono hb.size)⟩
       | false =>
         have hR : R = false := by have h := Hst.out; rw [Bool.false_and] at h; exact h
         go_wp2_with fail
         refine wp_region_grow (by kernel_rfl) (by kernel_rfl) ?_
         repeat (go_big_quiet_step ((go_at_call 112; exact Calls.grow fun ww h => Hc.out ww (hb.trans (h.mono hb.size)))))
         refine wpQuiet_nil ?_
         rintro _ ⟨nq, rfl⟩
         go_wp2
         go_ret
         exact ⟨by rw [hR]; rfl, hb.trans (nq.below.mono hb.size)⟩
   · obtain rfl : k = n := by omega
     have hR : R = true := by
       have := Hq.out
       rw [List.drop_eq_nil_of_le (by rw [Hn.out]; exact Nat.le_refl _)] at this
       exact this.symm
     by_cases h4 : (k : Int) ≤ 4
     · go_wp2
       go_ret
       exact ⟨by show Ending.returned (.bool _) = _; rw [hR]; simp; omega, hb⟩
     · go_wp2
       go_ret
       exact ⟨by show Ending.returned (.bool _) = _; simp; omega, hb⟩
def idxFrom : List Rel → ByteArray → Int → Int
 | [], _, _ => -1
 | r :: l, s, i => if r.name = s then i else idxFrom l s (i + 1)
def relIdx (l : List Rel) (s : ByteArray) : Int := idxFrom l s 0
theorem name_beq (n s : ByteArray) : (n.toList == s.toList) = decide (n = s) := by
 by_cases h : n = s
 · subst h; simp
 · rw [decide_eq_false h, Lib.toList_data, Lib.toList_data]
   simp only [beq_eq_false_iff_ne, ne_eq]
   intro e; exact h (by rw [str_of n, str_of s, e])
open Go.RowKit
def cmpL : List Int → List Int → Int
 | [], [] => 0
 | [], _ :: _ => -1
 | _ :: _, [] => 1
 | a :: l, b :: m => if a < b then -1 else if b < a then 1 else cmpL l m
def cmpF (x y : Fct) : Int := if x.rel < y.rel then -1 else if y.rel < x.rel then 1 else cmpL x.vals y.vals
def allIn (l : List Int) : Bool := l.all fun x => inB x 0 9
def arityAt (l : List Rel) (r : Int) : Int := match l[r.toNat]? with | some q => q.arity | none => 0
def validFact (l : List Rel) (x : Fct) : Bool := validRels l && (inB x.rel 0 ((l.length : Int) - 1) && (decide ((x.vals.length : Int) = arityAt l x.rel) && allIn x.vals))
/- Chapter 2: the program's functions on relations. -/
open Go.RowKit
/-! ### isLetter, IsValidRelation -/
set_option maxHeartbeats 800000 in
theorem isLetter_any {n : ByteArray} (hs : n.size ≤ 9223372036854775807) (w : World) :
   Calls Tryd.prog 141 #[.string n] w fun e w' => e = .returned (.bool (validName n)) ∧ w = w' := by
 by_cases h1 : n.size = 1
 · have hn := validName_one h1
   have hlt : 0 < n.size := by omega
   have hb := n[0].toNat_lt
   generalize hu : n[0] = u at *
   by_cases h2 : (97 : Int) ≤ (u.toNat : Int)
   · by_cases h3 : (u.toNat : Int) ≤ 122
     · have hn2 : validName n = true := by rw [hn]; simp; omega
       rw [hn2]
       clear hn hn2
       go_enter Tryd.func141, Tryd.ntmps141
       go_wp2
       go_ret
       exact ⟨rfl, rfl⟩
     · have hn2 : validName n = false := by rw [hn]; simp; omega
       rw [hn2]
       clear hn hn2
       go_enter Tryd.func141, Tryd.ntmps141
       go_wp2
       go_ret
       exact ⟨rfl, rfl⟩
   · have hn2 : validName n = false := by rw [hn]; simp; omega
     rw [hn2]
     clear hn hn2
     go_enter Tryd.func141, Tryd.ntmps141
     go_wp2
     go_ret
     exact ⟨rfl, rfl⟩
 · rw [validName_not h1]
   have h2 : ((n.size : Int) == 1) = false := by simp; omega
   go_enter Tryd.func141, Tryd.ntmps141
   go_wp2
   go_ret
   exact ⟨rfl, rfl⟩
set_option maxHeartbeats 1600000 in
theorem implIsValidRelation_c {r : Rel} {w : World} (h : At cRel w r [.string r.name, .int .i64 r.arity, .int .i64 r.key]) :
   Calls Tryd.prog 113 #[.agg #[.string r.name, .int .i64 r.arity, .int .i64 r.key]] w fun e w' => e = .returned (.bool (validRel r)) ∧ Below w.heap.size w w' := by
 have hr := (cRel_inv h).2.1
 clear h
 obtain ⟨n, a, k⟩ := r
 unfold maxLen at hr
 simp only [validRel, inB] at *
 have H := fun ww => isLetter_any (n := n) (by omega) ww
 generalize validName n = v at *
 cases v with
 | false =>
   rw [Bool.false_and]
   go_enter Tryd.func113, Tryd.ntmps113
   go_wp2_with (go_at_call 141; refine (H _).mono ?_; rintro e w' ⟨rfl, rfl⟩)
   go_ret
   exact ⟨rfl, by go_grown⟩
 | true =>
   rw [Bool.true_and]
   by_cases h1 : (1 : Int) ≤ a <;> by_cases h2 : a ≤ 3 <;> by_cases h3 : (0 : Int) ≤ k
   all_goals try (exfalso; omega)
   all_goals
     go_enter Tryd.func113, Tryd.ntmps113
     go_wp2_with (go_at_call 141; refine (H _).mono ?_; rintro e w' ⟨rfl, rfl⟩)
   all_goals
     go_ret
     exact ⟨by first | (simp [h1, h2, h3]; done) | (simp; omega), by go_grown⟩
/-! ### names in ascending order -/
def ascN : Option ByteArray → List Rel → Bool
 | _, [] => true
 | p, r :: l => okPrev p r.name && ascN (some r.name) l
theorem ascN_step (l : List Rel) (k : Nat) (hk : k < l.length) : ascN (prevOf l k) (l.drop k) = (okPrev (prevOf l k) l[k].name && ascN (prevOf l (k + 1)) (l.drop (k + 1))) := by
 rw [List.drop_eq_getElem_cons hk]
 simp [ascN, prevOf, hk]
theorem ascN_start (l : List Rel) : ascN none l = ascN (prevOf l 1) (l.drop 1) := by
 cases l with
 | nil => rfl
 | cons r l => simp [ascN, prevOf, okPrev]
theorem ascFrom_split : ∀ (l : List Rel) (p : Option ByteArray), ascFrom p l = (l.all validRel && ascN p l)
 | [], _ => rfl
 | r :: l, p => by
   simp only [ascFrom, ascN, List.all_cons, ascFrom_split l]
   cases validRel r <;> cases okPrev p r.name <;> cases l.all validRel <;> simp
theorem cmpB_list : ∀ (x y : List UInt8), decide (Lib.compareBytes x y ≥ 0) = !Op.bytesLess x y
 | [], [] => rfl
 | [], _ :: _ => rfl
 | _ :: _, [] => rfl
 | a :: x, b :: y => by
   rw [Lib.compareBytes, Op.bytesLess]
   by_cases h : a < b
   · simp [h]
   · by_cases h2 : b < a
     · have h3 : (a == b) = false := by
         simp only [beq_eq_false_iff_ne, ne_eq]
         intro e; subst e; exact h h2
       rw [if_neg h, if_pos h2, h3, decide_eq_false h]; rfl
     · have h3 : a = b := by
         apply UInt8.toNat_inj.mp
         have h4 : ¬ a.toNat < b.toNat := h
         have h5 : ¬ b.toNat < a.toNat := h2
         omega
       subst h3
       rw [if_neg h, if_neg h, cmpB_list x y, decide_eq_false h]; simp
theorem cmpB_lt (a b : ByteArray) : decide (Lib.compareBytes a.data.toList b.data.toList ≥ 0) = !Op.bytesLess a.toList b.toList := by
 rw [Lib.toList_data, Lib.toList_data]; exact cmpB_list _ _
theorem compareNames_c {n m : ByteArray} {a k a' k' : Int} (w : World) :
   Calls Tryd.prog 126 #[.agg #[.string n, .int .i64 a, .int .i64 k], .agg #[.string m, .int .i64 a', .int .i64 k']] w fun e w' => e = .returned (.int .i64 (Lib.compareBytes n.data.toList m.data.toList)) ∧ Below w.heap.size w w' := by
 generalize hz : Lib.compareBytes n.data.toList m.data.toList = z
 have H : ∀ ww, Calls Tryd.prog 150 #[.string n, .string m] ww fun e w' => e = .returned (.int .i64 z) ∧ w' = ww := fun ww => hz ▸ Tryd.strings_Compare n m ww
 clear hz
 go_enter Tryd.func126, Tryd.ntmps126
 go_wp2_with (go_at_call 150; refine (H _).mono ?_; rintro e w' ⟨rfl, rfl⟩)
 go_ret
 exact ⟨rfl, by go_grown⟩
set_option maxHeartbeats 1600000 in
theorem ascNames_c {a0 : Option Addr} {cap0 : Nat} {l : List Rel} {w : World} (h : At (cSlice cRel) w l [.slice a0 l.length cap0]) :
   Calls Tryd.prog 125 #[.slice a0 l.length cap0, .func (.func 126) #[] #[]] w fun e w' => e = .returned (.bool (ascN none l)) ∧ Below w.heap.size w w' := by
 have hm := (slice_len h).2
 unfold maxLen at hm
 obtain ⟨n, hn⟩ : ∃ n : Nat, l.length = n := ⟨_, rfl⟩
 have Hr : Hid (∀ w' : World, Below w.heap.size w w' → ∀ j (hj : j < l.length), _) := fun w' hb j hj => at_Relation (Cod.ok_below h hb) j hj
 have Hn := Lib.hid hn
 rw [hn] at hm ⊢
 clear hn h
 generalize hR : ascN none l = R
 rw [ascN_start] at hR
 have HR : Hid (ascN (prevOf l 1) (l.drop 1) = R) := hR
 clear hR
 go_enter Tryd.func125, Tryd.ntmps125
 go_wp2
 go_loopw [5] (fun iv wr => ∃ k : Nat, (k ≤ n ∨ k = 1) ∧ 1 ≤ k ∧ iv = .int .i64 k ∧ Hid (ascN (prevOf l k) (l.drop k) = R) ∧ Below w.heap.size w wr) (fun iv _ => n - (intOf iv).toNat)
 case atStart => exact ⟨1, by omega, by omega, by go_num, HR, Below.refl _ _⟩
 case round =>
   clear HR
   obtain ⟨k, hk, hk1, rfl, Hq, hb⟩ := hrel
   by_cases hlt : k < n
   · have hkl : k < l.length := by rw [Hn.out]; exact hlt
     obtain ⟨j, hj⟩ : ∃ j, k = j + 1 := ⟨k - 1, by omega⟩
     have hjl : j < l.length := by omega
     have hp : okPrev (prevOf l k) l[k].name = Op.bytesLess l[j].name.toList l[k].name.toList := by subst hj; exact okPrev_succ l j hjl _
     have Hst := Lib.hid (Hq.out.symm.trans (ascN_step l k hkl))
     rw [hp] at Hst
     obtain ⟨b, off, rfl, hbB, c0, c1, c2, hx⟩ := Hr.out _ hb k hkl
     obtain ⟨b', off', e', hbB', p0, p1, p2, hxp⟩ := Hr.out _ hb j hjl
     obtain ⟨rfl, rfl⟩ : b = b' ∧ off = off' := by simp at e'; exact e'
     have C0 := grow_cell c0
     have C1 := grow_cell c1
     have C2 := grow_cell c2
     have D0 := grow_cell p0
     have D1 := grow_cell p1
     have D2 := grow_cell p2
     have hwj : wrap64 ((k : Int) - 1) = (j : Int) := by rw [IntWalk.wrap64_in _ ⟨by omega, by omega⟩]; omega
     have hkj : (k : Int) - 1 = (j : Int) := by omega
     have hjn : (j : Int) < n := by omega
     have hz := cmpB_lt l[j].name l[k].name
     have Hc := fun ww => compareNames_c (n := l[j].name) (m := l[k].name) (a := l[j].arity) (k := l[j].key) (a' := l[k].arity) (k' := l[k].key) ww
     have Hj := Lib.hid hj
     clear hj e' hxp hx hp hbB' hbB p0 p1 p2 c0 c1 c2 Hq
     generalize l[j] = q at *
     generalize l[k] = r at *
     generalize Op.bytesLess q.name.toList r.name.toList = z at *
     generalize Lib.compareBytes q.name.data.toList r.name.data.toList = zz at *
     cases z with
     | true =>
       rw [Bool.not_true] at hz
       go_wp2_with fail
       refine wp_region_grow (by kernel_rfl) (by kernel_rfl) ?_
       repeat (go_big_quiet_step ((go_at_call 126; exact Calls.grow fun ww h => Hc ww)))
       refine wpQuiet_nil ?_
       rintro _ ⟨nq, rfl⟩
       go_wp2
       go_roundw
       case rel => exact ⟨k + 1, by omega, by omega, by go_num, by have h := Hst.out; rw [Bool.true_and] at h; exact h.symm, hb.trans (nq.below.mono hb.size)⟩
       case measure => simp [intOf]; omega
     | false =>
       rw [Bool.not_false] at hz
       have hR : R = false := by have h := Hst.out; rw [Bool.false_and] at h; exact h
       go_wp2_with fail
       refine wp_region_grow (by kernel_rfl) (by kernel_rfl) ?_
       repeat (go_big_quiet_step ((go_at_call 126; exact Calls.grow fun ww h => Hc ww)))
       refine wpQuiet_nil ?_
       rintro _ ⟨nq, rfl⟩
       go_wp2
       go_ret
       exact ⟨by rw [hR]; rfl, hb.trans (nq.below.mono hb.size)⟩
   · have hR : R = true := by
       have := Hq.out
       rw [List.drop_eq_nil_of_le (by rw [Hn.out]; omega)] at this
       exact this.symm
     go_wp2
     go_ret
     exact ⟨by rw [hR]; rfl, hb⟩
/- Chapter 2: the program's functions on lists of relations. -/
open Go.RowKit
theorem all_drop {α : Type} (p : α → Bool) (l : List α) (k : Nat) (hk : k < l.length) : (l.drop k).all p = (p l[k] && (l.drop (k + 1)).all p) := by
 rw [List.drop_eq_getElem_cons hk]; rfl
set_option maxHeartbeats 1600000 in
theorem implAreValidRelations_c {a0 : Option Addr} {cap0 : Nat} {l : List Rel} {w : World} (h : At (cSlice cRel) w l [.slice a0 l.length cap0]) :
   Calls Tryd.prog 97 #[.slice a0 l.length cap0] w fun e w' => e = .returned (.bool (validRels l)) ∧ Below w.heap.size w w' := by
 have hm := (slice_len h).2
 unfold maxLen at hm
 unfold validRels
 rw [ascFrom_split]
 obtain ⟨n, hn⟩ : ∃ n : Nat, l.length = n := ⟨_, rfl⟩
 have Hr : Hid (∀ w' : World, Below w.heap.size w w' → ∀ j (hj : j < l.length), _) := fun w' hb j hj => at_Relation (Cod.ok_below h hb) j hj
 have Ha : Hid (∀ ww, Below w.heap.size w ww → Calls Tryd.prog 125 #[.slice a0 l.length cap0, .func (.func 126) #[] #[]] ww fun e w' => e = .returned (.bool (ascN none l)) ∧ Below ww.heap.size ww w') :=
   fun ww hb => ascNames_c (At.below h hb (Nat.le_refl _))
 have Hn := Lib.hid hn
 rw [hn] at hm Ha ⊢
 clear hn h
 generalize ascN none l = A at *
 generalize hR : l.all validRel = R
 have HR : Hid ((l.drop 0).all validRel = R) := hR
 clear hR
 by_cases h4 : (n : Int) > 4
 · have hd : decide (n ≤ 4) = false := decide_eq_false (by omega)
   rw [hd, Bool.and_false]
   go_enter Tryd.func97, Tryd.ntmps97
   go_wp2
   go_ret
   exact ⟨rfl, by go_grown⟩
 · have hd : decide (n ≤ 4) = true := decide_eq_true (by omega)
   rw [hd, Bool.and_true]
   go_enter Tryd.func97, Tryd.ntmps97
   go_wp2
   go_loopw [10] (fun iv wr => ∃ k : Nat, k ≤ n ∧ iv = .int .i64 k ∧ Hid ((l.drop k).all validRel = R) ∧ Below w.heap.size w wr) (fun iv _ => n - (intOf iv).toNat)
   case atStart => exact ⟨0, by omega, by go_num, HR, Below.refl _ _⟩
   case round =>
     clear HR
     obtain ⟨k, hk, rfl, Hq, hb⟩ := hrel
     by_cases hlt : k < n
     · have hkl : k < l.length := by rw [Hn.out]; exact hlt
       have Hst := Lib.hid (Hq.out.symm.trans (all_drop validRel l k hkl))
       obtain ⟨b, off, rfl, hbB, c0, c1, c2, hx⟩ := Hr.out _ hb k hkl
       have Hc : Hid (∀ ww, Below w.heap.size w ww → Calls Tryd.prog 113 #[.agg #[.string l[k].name, .int .i64 l[k].arity, .int .i64 l[k].key]] ww fun e w' => e = .returned (.bool (validRel l[k])) ∧ Below ww.heap.size ww w') :=
         fun ww hw2 => by obtain ⟨_, _, _, _, _, _, _, hx⟩ := Hr.out ww hw2 k hkl; exact implIsValidRelation_c (cRel.keep hx (fun _ _ => rfl) hw2.size)
       clear hx Hq
       generalize validRel l[k] = v at *
       generalize l[k] = r at *
       cases v with
       | true =>
         rw [Bool.true_and] at Hst
         go_wp2_with fail
         refine (Hc.out _ ?hb).mono ?_
         case hb => exact hb.trans (Below.mono (by go_grown) hb.size)
         rintro e w1 ⟨rfl, hb1⟩
         have hbb : Below w.heap.size w w1 := hb.trans (Below.mono (Below.trans (by go_grown) (hb1.mono (by simp; try omega))) hb.size)
         go_wp2
         go_roundw
         case rel => exact ⟨k + 1, by omega, by go_num, Hst.out.symm, hbb⟩
         case measure => simp [intOf]; omega
       | false =>
         have hR : R = false := by have h := Hst.out; rw [Bool.false_and] at h; exact h
         go_wp2_with fail
         refine (Hc.out _ ?hb).mono ?_
         case hb => exact hb.trans (Below.mono (by go_grown) hb.size)
         rintro e w1 ⟨rfl, hb1⟩
         have hbb : Below w.heap.size w w1 := hb.trans (Below.mono (Below.trans (by go_grown) (hb1.mono (by simp; try omega))) hb.size)
         go_wp2
         go_ret
         exact ⟨by rw [hR]; rfl, hbb⟩
     · obtain rfl : k = n := by omega
       have hR : R = true := by
         have := Hq.out
         rw [List.drop_eq_nil_of_le (by rw [Hn.out]; exact Nat.le_refl _)] at this
         exact this.symm
       go_wp2_with fail
       refine (Ha.out _ hb).mono ?_
       rintro e w1 ⟨rfl, hb1⟩
       have hbb : Below w.heap.size w w1 := hb.trans (hb1.mono hb.size)
       go_wp2
       go_ret
       exact ⟨by rw [hR]; rfl, hbb⟩
open Go.RowKit
theorem isIndex_any (i : Int) (n : Nat) (w : World) :
   Calls Tryd.prog 127 #[.int .i64 i, .int .i64 n] w fun e w' => e = .returned (.bool (inB i 0 ((n : Int) - 1))) ∧ w = w' := by
 unfold inB
 have e : decide (i ≤ (n : Int) - 1) = decide (i < (n : Int)) := by simp; omega
 rw [e]
 clear e
 by_cases h : 0 ≤ i
 · go_enter Tryd.func127, Tryd.ntmps127
   go_wp2
   go_ret
   exact ⟨by simp; try omega, rfl⟩
 · go_enter Tryd.func127, Tryd.ntmps127
   go_wp2
   go_ret
   exact ⟨by simp; try omega, rfl⟩
theorem isValue_any (i : Int) (w : World) :
   Calls Tryd.prog 140 #[.int .i64 i] w fun e w' => e = .returned (.bool (inB i 0 9)) ∧ w = w' := by
 unfold inB
 by_cases h : 0 ≤ i
 · go_enter Tryd.func140, Tryd.ntmps140
   go_wp2
   go_ret
   exact ⟨by simp; try omega, rfl⟩
 · go_enter Tryd.func140, Tryd.ntmps140
   go_wp2
   go_ret
   exact ⟨by simp; try omega, rfl⟩
/- Chapter 3: the program's IsValidFact. -/
open Go.RowKit
end

section
/- KeyOne: Eq Key Ord DbSpec DbImpl. -/
/- Go's slices.Equal on numbers; the first numbers of a slice. -/
open Go.RowKit
theorem ints_take {B : Nat} {w : World} {l : List Int} {a : Option Addr} {len cap : Nat} (h : (cSlice cInt).ok B w l [.slice a len cap]) (k : Nat) (hk : k ≤ l.length) :
   (cSlice cInt).ok B w (l.take k) [.slice a (l.take k).length cap] := by
 obtain ⟨a', cap', e, hm, h⟩ := h
 simp at e
 obtain ⟨rfl, rfl, rfl⟩ := e
 have hl : (l.take k).length = k := by simp; omega
 refine ⟨a, cap, rfl, ⟨by omega, by omega⟩, fun j hj => ?_⟩
 obtain ⟨b, off, es, he, hb, hc, hi⟩ := h j (by omega)
 exact ⟨b, off, es, he, hb, by simpa using hc, hi⟩
open Go.RowKit
def keyN (l : List Rel) (r : Int) : Nat := match l[r.toNat]? with | some q => q.key.toNat | none => 0
def sameKey (l : List Rel) (x y : Fct) : Bool := decide (x.rel = y.rel) && decide (x.vals.take (keyN l x.rel) = y.vals.take (keyN l x.rel))
def keyVals (l : List Rel) (x : Fct) : List Int := if validFact l x then x.vals.take (keyN l x.rel) else []
def haveKey (l : List Rel) (x y : Fct) : Bool := validFact l x && (validFact l y && sameKey l x y)
/- Chapter 4: the model's functions on databases that hand back plain values. -/
open Go.RowKit
def prevG {α : Type} (l : List α) : Nat → Option α
 | 0 => none
 | k + 1 => l[k]?
def okF : Option Fct → Fct → Bool
 | none, _ => true
 | some q, x => !decide (cmpF q x ≥ 0)
def factsFrom (rs : List Rel) : Option Fct → List Fct → Bool
 | _, [] => true
 | p, x :: l => validFact rs x && (okF p x && factsFrom rs (some x) l)
def validDb (d : Dbs) : Bool := factsFrom d.rels none d.facts && (validRels d.rels && decide (d.facts.length ≤ 14))
/- Chapter 4: the program's IsValidDatabase. -/
open Go.RowKit
def ascF : Option Fct → List Fct → Bool
 | _, [] => true
 | p, x :: l => okF p x && ascF (some x) l
end

section
/- VarOne: Var VarK. -/
/- Chapter 11: the variables of a list of terms: l7Has, AtomVariables of both sides. -/
open Go.RowKit
theorem srcs_oneV (w : World) (v : Value) (e : TypeId) (h : v.oneCell' = true) : Srcs (w.alloc (.cells #[v] e)) 1 (some ⟨w.heap.size, 0, none⟩) 1 [v] :=
 ⟨rfl, fun u hu => by simp at hu; subst hu; exact h, .inr ⟨_, rfl, one_at w v e⟩⟩
theorem own_formV {w : World} {base : Nat} {e : TypeId} {v : Value} {n : Nat} {xs : List Value} (h : w.ownsRow base e 1 v n xs) : ∃ a cap, v = .slice a n cap := by
 rcases h.2 with ⟨rfl, h0⟩ | ⟨g, cp, cur, rfl, _⟩
 · exact ⟨none, 0, by rw [h0]⟩
 · exact ⟨_, _, rfl⟩
theorem own_pushV {w w' : World} {base : Nat} {e : TypeId} {v' : Value} {n : Nat} {l : List Int} {x : Int} (h : w'.ownsRow base e 1 v' (n + 1) (l.map iv ++ [.int .i64 x])) : w'.ownsRow base e 1 v' (l ++ [x]).length ((l ++ [x]).map iv) := by
 have hn := h.1
 simp at hn
 rw [List.map_append, List.length_append, List.length_singleton]
 subst hn
 exact h
theorem row_emptyV (w : World) (e : TypeId) (base : Nat) (h : base ≤ w.heap.size) : (w.alloc (.cells #[] e)).ownsRow base e 1 (.slice (some ⟨w.heap.size, 0, none⟩) 0 0) 0 [] :=
 ⟨rfl, .inr ⟨w.heap.size, 0, #[], rfl, h, heap_alloc_new w _, by simp, by simp, by simp, by simp⟩⟩
def vPart (l : List Int) (k : Nat) : List Int := ((List.range k).filter fun (v : Nat) => l.contains (v : Int)).map fun (v : Nat) => (v : Int)
def varsL (l : List Int) : List Int := vPart l 4
theorem vPart_succ (l : List Int) (k : Nat) : vPart l (k + 1) = if l.contains (k : Int) = true then vPart l k ++ [(k : Int)] else vPart l k := by
 unfold vPart
 rw [List.range_succ, List.filter_append, List.map_append]
 cases h : l.contains (k : Int)
 · rw [if_neg Bool.false_ne_true, List.filter_cons, if_neg (by rw [h]; exact Bool.false_ne_true)]; simp
 · rw [if_pos rfl, List.filter_cons, if_pos h]; rfl
theorem vPart_len (l : List Int) (k : Nat) : (vPart l k).length ≤ k := by
 unfold vPart
 rw [List.length_map]
 exact Nat.le_trans (List.length_filter_le _ _) (by simp)
theorem vPart_inR (l : List Int) (k : Nat) (hk : k ≤ 4) : ∀ x, x ∈ vPart l k → inR x := by
 intro x hx
 obtain ⟨v, hv, rfl⟩ := List.mem_map.1 hx
 have := List.mem_range.1 (List.mem_filter.1 hv).1
 unfold inR
 omega
theorem containsI_c {a : Option Addr} {cap : Nat} {l : List Int} {x : Int} {w : World} (h : At (cSlice cInt) w l [.slice a l.length cap]) :
   Calls Tryd.prog 132 #[.slice a l.length cap, .int .i64 x] w fun e w' => e = .returned (.bool (l.contains x)) ∧ Below w.heap.size w w' := by
 have hm := (slice_len h).2
 unfold maxLen at hm
 rcases Nat.eq_zero_or_pos l.length with h0 | h0
 · obtain rfl := List.eq_nil_of_length_eq_zero h0
   exact (Tryd.slices_Contains_int_empty a cap x w).mono fun e w' ⟨he, hw⟩ => ⟨by rw [he]; rfl, hw ▸ Below.refl _ _⟩
 · obtain ⟨b, off, rfl, _, _⟩ := ints_at h 0 h0
   refine (Tryd.slices_Contains_int b off l.length cap l x w (Nat.le_refl _) (by omega) (fun j hj => ?_)).mono fun e w' ⟨he, hw⟩ => ⟨by rw [he, List.take_length], hw ▸ Below.refl _ _⟩
   obtain ⟨b', off', e, _, hc⟩ := ints_at h j hj
   simp at e
   obtain ⟨rfl, rfl⟩ := e
   rw [hc, List.getD_eq_getElem?_getD, List.getElem?_eq_getElem hj]; rfl
theorem contains_drop (l : List Int) (x : Int) (k : Nat) (hk : k < l.length) : (l.drop k).contains x = (l[k] == x || (l.drop (k + 1)).contains x) := by
 rw [List.drop_eq_getElem_cons hk, List.contains_cons, Bool.beq_comm]
theorem l7Has_c {a : Option Addr} {cap : Nat} {l : List Int} {x : Int} {w : World} (h : At (cSlice cInt) w l [.slice a l.length cap]) :
   Calls Tryd.prog 146 #[.slice a l.length cap, .int .i64 x] w fun e w' => e = .returned (.bool (l.contains x)) ∧ Below w.heap.size w w' := by
 have hm := (slice_len h).2
 unfold maxLen at hm
 have Hr : Hid (∀ w' : World, Below w.heap.size w w' → ∀ j (hj : j < l.length), _) := fun w' hb j hj => ints_at (Cod.ok_below h hb) j hj
 obtain ⟨n, hn⟩ : ∃ n : Nat, l.length = n := ⟨_, rfl⟩
 have Hn := Lib.hid hn
 rw [hn] at hm ⊢
 clear hn h
 generalize hR : l.contains x = R
 have HR : Hid ((l.drop 0).contains x = R) := hR
 clear hR
 go_enter Tryd.func146, Tryd.ntmps146
 go_wp2
 go_loopw [5] (fun iv wr => ∃ k : Nat, k ≤ n ∧ iv = .int .i64 k ∧ Hid ((l.drop k).contains x = R) ∧ Below w.heap.size w wr) (fun iv _ => n - (intOf iv).toNat)
 case atStart => exact ⟨0, by omega, by go_num, HR, Below.refl _ _⟩
 case round =>
   clear HR
   obtain ⟨k, hk, rfl, Hq, hb⟩ := hrel
   by_cases hlt : k < n
   · have hkl : k < l.length := by rw [Hn.out]; exact hlt
     have Hst := Lib.hid (Hq.out.symm.trans (contains_drop l x k hkl))
     obtain ⟨b, off, rfl, hbB, c0⟩ := Hr.out _ hb k hkl
     clear Hq
     generalize l[k] = e at *
     cases he : (e == x) with
     | true =>
       have hR : Hid (R = true) := by have h := Hst.out; rw [he, Bool.true_or] at h; exact h
       go_wp2
       go_ret
       exact ⟨by rw [hR.out]; rfl, hb⟩
     | false =>
       have Hs2 : Hid ((l.drop (k + 1)).contains x = R) := by have h := Hst.out; rw [he, Bool.false_or] at h; exact h.symm
       go_wp2
       go_roundw
       case rel => exact ⟨k + 1, by omega, by go_num, Hs2, hb⟩
       case measure => simp [intOf]; omega
   · obtain rfl : k = n := by omega
     have hR : Hid (R = false) := by
       have h := Hq.out
       rw [List.drop_eq_nil_of_le (by rw [Hn.out]; exact Nat.le_refl _)] at h
       exact h.symm
     go_wp2
     go_ret
     exact ⟨by rw [hR.out]; rfl, hb⟩
set_option maxHeartbeats 1600000 in
theorem variablesOf_c {a : Option Addr} {cap : Nat} {l : List Int} {w : World} (h : At (cSlice cInt) w l [.slice a l.length cap]) :
   Calls Tryd.prog 162 #[.slice a l.length cap] w fun e w' => (∃ a cap, e = .returned (.slice a (varsL l).length cap) ∧ Own (cSlice cInt) w.heap.size w' (varsL l) [.slice a (varsL l).length cap]) ∧ Below w.heap.size w w' := by
 have H1 : Hid (∀ ww (x : Int), Below w.heap.size w ww → Calls Tryd.prog 132 #[.slice a l.length cap, .int .i64 x] ww fun e w' => e = .returned (.bool (l.contains x)) ∧ Below ww.heap.size ww w') :=
   fun ww x hb => containsI_c (At.below h hb (Nat.le_refl _))
 clear h
 unfold varsL
 have Hin := Lib.hid (vPart_inR l 4 (by omega))
 generalize l.length = n at *
 obtain ⟨i0, hi, hz0, hz1, hz2⟩ := info_parts Tryd.infoI
 go_enter Tryd.func162, Tryd.ntmps162
 have hown0 : w.ownsRow w.heap.size 3 1 (.slice none 0 0) (vPart l 0).length ((vPart l 0).map iv) := World.ownsRow_nil _ _ _ _
 go_wp2
 go_loopw [3, 5] (fun ov kv wr => ∃ (k : Nat) (o : Value), o = ov ∧ k ≤ 4 ∧ kv = .int .i64 k ∧ wr.ownsRow w.heap.size 3 1 o (vPart l k).length ((vPart l k).map iv) ∧ Below w.heap.size w wr) (fun _ kv _ => 4 - (intOf kv).toNat)
 case atStart => exact ⟨0, _, rfl, by omega, by go_num, hown0, Below.refl _ _⟩
 case round =>
   clear hown0
   obtain ⟨k, o, rfl, hk, rfl, hown, hbx⟩ := hrel
   by_cases hlt : k < 4
   · have Hs := Lib.hid (vPart_succ l k)
     have hlen := vPart_len l k
     have Hc := Lib.hid (H1.out wr (k : Int) hbx)
     generalize hcu : vPart l k = cur at *
     clear hcu
     cases hz : l.contains (k : Int) with
     | true =>
       rw [hz] at Hc Hs
       clear hz
       have Hs2 : Hid (vPart l (k + 1) = cur ++ [(k : Int)]) := by have h := Hs.out; rw [if_pos rfl] at h; exact h
       clear Hs
       go_wp2_with fail
       refine Hc.out.mono ?_
       rintro e w2 ⟨rfl, hb2⟩
       have hown2 := ownsRow_below hown hb2
       have hbx2 : Below w.heap.size w w2 := hbx.trans (hb2.mono hbx.size)
       have hownA : (w2.alloc (.cells #[.int .i64 (k : Int)] 3)).ownsRow w.heap.size 3 1 o cur.length (cur.map iv) := ownsRow_below hown2 (by go_grown)
       have hbA : Below w.heap.size w (w2.alloc (.cells #[.int .i64 (k : Int)] 3)) := hbx2.trans ((by go_grown : Below w2.heap.size w2 _).mono hbx2.size)
       clear hown hown2 hb2 Hc
       go_wp2_with (at_builtin; refine wpList_app rfl _ _ _ (by rfl) w.heap.size 3 i0 (.int .i64 0) 1 8 Tryd.underlying24 hi hz0 hz1 hz2 rfl (by omega) o cur.length (cur.map iv) (by rfl) hownA _ _ _ [.int .i64 (k : Int)] (by rfl) (srcs_oneV w2 _ _ rfl) ?c1 ?c2 ?c3 ?_)
       case c1 => unfold maxLen; omega
       case c2 => omega
       case c3 => exact hbA.size
       intro v1 w3 hown3 hg3 _
       have hown4 := own_pushV (w := w3) hown3
       have hb4 : Below w.heap.size w w3 := Below.grownOwn hbA hg3 hownA (Nat.le_refl _)
       clear hown3 hg3 hownA hbA
       go_wp2
       go_roundw
       case rel => exact ⟨k + 1, _, rfl, by omega, by go_num, by rw [Hs2.out]; exact hown4, hb4⟩
       case measure => simp [intOf]; omega
     | false =>
       rw [hz] at Hc Hs
       clear hz
       have Hs2 : Hid (vPart l (k + 1) = cur) := by have h := Hs.out; rw [if_neg Bool.false_ne_true] at h; exact h
       clear Hs
       go_wp2_with fail
       refine Hc.out.mono ?_
       rintro e w2 ⟨rfl, hb2⟩
       have hown2 := ownsRow_below hown hb2
       have hbx2 : Below w.heap.size w w2 := hbx.trans (hb2.mono hbx.size)
       clear hown hb2 Hc
       go_wp2
       go_roundw
       case rel => exact ⟨k + 1, _, rfl, by omega, by go_num, by rw [Hs2.out]; exact hown2, hbx2⟩
       case measure => simp [intOf]; omega
   · obtain rfl : k = 4 := by omega
     obtain ⟨oa, oc, rfl⟩ := own_formV hown
     have ho := own_ints hown Hin.out
     clear hown
     go_wp2
     go_ret
     exact ⟨⟨_, _, rfl, ho⟩, hbx⟩
theorem implAtomVariables_c {a : Option Addr} {cap : Nat} {x : Atm} {w : World} (h : At cAtm w x [.int .i64 x.rel, .slice a x.terms.length cap]) :
   Calls Tryd.prog 149 #[.agg #[.int .i64 x.rel, .slice a x.terms.length cap]] w fun e w' => (∃ a cap, e = .returned (.slice a (varsL x.terms).length cap) ∧ Own (cSlice cInt) w.heap.size w' (varsL x.terms) [.slice a (varsL x.terms).length cap]) ∧ Below w.heap.size w w' := by
 have h2 := (cAtm_inv h).1
 have H1 : Hid (∀ ww, Below w.heap.size w ww → Calls Tryd.prog 162 #[.slice a x.terms.length cap] ww fun e w' => (∃ a cap, e = .returned (.slice a (varsL x.terms).length cap) ∧ Own (cSlice cInt) ww.heap.size w' (varsL x.terms) [.slice a (varsL x.terms).length cap]) ∧ Below ww.heap.size ww w') :=
   fun ww hb => variablesOf_c (At.below (c := cSlice cInt) h2 hb (Nat.le_refl _))
 clear h h2
 obtain ⟨r, l⟩ := x
 simp only at *
 generalize varsL l = V at *
 generalize l.length = n at *
 go_enter Tryd.func149, Tryd.ntmps149
 go_wp2_with fail
 refine (H1.out _ ?hb).mono ?_
 case hb => go_grown
 rintro e w1 ⟨⟨oa, oc, rfl, ho⟩, hb1⟩
 have hbb : Below w.heap.size w w1 := Below.trans (by go_grown) (hb1.mono (by simp; try omega))
 have ho2 := Own.mono ho (by simp; try omega : w.heap.size ≤ _)
 clear ho hb1
 go_wp2
 go_ret
 exact ⟨⟨_, _, rfl, ho2⟩, hbb⟩
set_option maxHeartbeats 1600000 in
theorem specAtomVariables_c {a : Option Addr} {cap : Nat} {x : Atm} {w : World} (h : At cAtm w x [.int .i64 x.rel, .slice a x.terms.length cap]) :
   Calls Tryd.prog 122 #[.agg #[.int .i64 x.rel, .slice a x.terms.length cap]] w fun e w' => (∃ a cap, e = .returned (.slice a (varsL x.terms).length cap) ∧ Own (cSlice cInt) w.heap.size w' (varsL x.terms) [.slice a (varsL x.terms).length cap]) ∧ Below w.heap.size w w' := by
 have h2 := (cAtm_inv h).1
 have H1 : Hid (∀ ww (y : Int), Below w.heap.size w ww → Calls Tryd.prog 146 #[.slice a x.terms.length cap, .int .i64 y] ww fun e w' => e = .returned (.bool (x.terms.contains y)) ∧ Below ww.heap.size ww w') :=
   fun ww y hb => l7Has_c (At.below (c := cSlice cInt) h2 hb (Nat.le_refl _))
 clear h h2
 obtain ⟨r, l⟩ := x
 simp only at *
 unfold varsL
 have Hin := Lib.hid (vPart_inR l 4 (by omega))
 generalize l.length = n at *
 obtain ⟨i0, hi, hz0, hz1, hz2⟩ := info_parts Tryd.infoI
 obtain ⟨wx, hwx⟩ : ∃ wx, wx = w.alloc (Obj.cells #[.int .i64 r, .slice a n cap] 95) := ⟨_, rfl⟩
 have hb0 : Below w.heap.size w wx := by rw [hwx]; go_grown
 have hws : wx.heap.size = w.heap.size + 1 := by rw [hwx]; simp
 have p1 : wx.cell? ⟨w.heap.size, 1, none⟩ = some (.slice a n cap) := by rw [hwx]; go_simp
 have hbe : Below wx.heap.size wx (wx.alloc (Obj.cells #[] 3)) := by go_grown
 have hown0 : (wx.alloc (Obj.cells #[] 3)).ownsRow wx.heap.size 3 1 (.slice (some ⟨w.heap.size + 1, 0, none⟩) 0 0) (vPart l 0).length ((vPart l 0).map iv) := by
   rw [← hws]
   exact row_emptyV wx 3 wx.heap.size (Nat.le_refl _)
 have Hwx := Lib.hid hwx
 clear hwx hws
 obtain ⟨wy, hwy⟩ : ∃ wy, wy = wx.alloc (Obj.cells #[] 3) := ⟨_, rfl⟩
 rw [← hwy] at hbe hown0
 have Hwy := Lib.hid hwy
 clear hwy
 go_enter Tryd.func122, Tryd.ntmps122
 go_wp2
 rw [← Hwx.out, ← Hwy.out]
 clear Hwx Hwy
 go_loopw [3, 4] (fun ov kv wr => ∃ (k : Nat) (o : Value), o = ov ∧ k ≤ 4 ∧ kv = .int .i64 k ∧ wr.ownsRow wx.heap.size 3 1 o (vPart l k).length ((vPart l k).map iv) ∧ Below wx.heap.size wx wr) (fun _ kv _ => 4 - (intOf kv).toNat)
 case atStart => exact ⟨0, _, rfl, by omega, by go_num, hown0, hbe⟩
 case round =>
   clear hown0 hbe
   obtain ⟨k, o, rfl, hk, rfl, hown, hbx⟩ := hrel
   have hbw : Below w.heap.size w wr := hb0.trans (hbx.mono hb0.size)
   by_cases hlt : k < 4
   · have Hs := Lib.hid (vPart_succ l k)
     have hlen := vPart_len l k
     have Hc := Lib.hid (H1.out wr (k : Int) hbw)
     have q1 := cell_next p1 hbx
     generalize hcu : vPart l k = cur at *
     clear hcu
     cases hz : l.contains (k : Int) with
     | true =>
       rw [hz] at Hc Hs
       clear hz
       have Hs2 : Hid (vPart l (k + 1) = cur ++ [(k : Int)]) := by have h := Hs.out; rw [if_pos rfl] at h; exact h
       clear Hs
       go_wp2_with fail
       refine Hc.out.mono ?_
       rintro e w2 ⟨rfl, hb2⟩
       have hown2 := ownsRow_below hown hb2
       have hbx2 : Below wx.heap.size wx w2 := hbx.trans (hb2.mono hbx.size)
       have hownA : (w2.alloc (.cells #[.int .i64 (k : Int)] 3)).ownsRow wx.heap.size 3 1 o cur.length (cur.map iv) := ownsRow_below hown2 (by go_grown)
       have hbA : Below wx.heap.size wx (w2.alloc (.cells #[.int .i64 (k : Int)] 3)) := hbx2.trans ((by go_grown : Below w2.heap.size w2 _).mono hbx2.size)
       clear hown hown2 hb2 Hc
       go_wp2_with (at_builtin; refine wpList_app rfl _ _ _ (by rfl) wx.heap.size 3 i0 (.int .i64 0) 1 8 Tryd.underlying24 hi hz0 hz1 hz2 rfl (by omega) o cur.length (cur.map iv) (by rfl) hownA _ _ _ [.int .i64 (k : Int)] (by rfl) (srcs_oneV w2 _ _ rfl) ?c1 ?c2 ?c3 ?_)
       case c1 => unfold maxLen; omega
       case c2 => omega
       case c3 => exact hbA.size
       intro v1 w3 hown3 hg3 _
       have hown4 := own_pushV (w := w3) hown3
       have hb4 : Below wx.heap.size wx w3 := Below.grownOwn hbA hg3 hownA (Nat.le_refl _)
       clear hown3 hg3 hownA hbA
       go_wp2
       go_roundw
       case rel => exact ⟨k + 1, _, rfl, by omega, by go_num, by rw [Hs2.out]; exact hown4, hb4⟩
       case measure => simp [intOf]; omega
     | false =>
       rw [hz] at Hc Hs
       clear hz
       have Hs2 : Hid (vPart l (k + 1) = cur) := by have h := Hs.out; rw [if_neg Bool.false_ne_true] at h; exact h
       clear Hs
       go_wp2_with fail
       refine Hc.out.mono ?_
       rintro e w2 ⟨rfl, hb2⟩
       have hown2 := ownsRow_below hown hb2
       have hbx2 : Below wx.heap.size wx w2 := hbx.trans (hb2.mono hbx.size)
       clear hown hb2 Hc
       go_wp2
       go_roundw
       case rel => exact ⟨k + 1, _, rfl, by omega, by go_num, by rw [Hs2.out]; exact hown2, hbx2⟩
       case measure => simp [intOf]; omega
   · obtain rfl : k = 4 := by omega
     obtain ⟨oa, oc, rfl⟩ := own_formV hown
     have ho := Own.mono (own_ints hown Hin.out) hb0.size
     clear hown
     go_wp2
     go_ret
     exact ⟨⟨_, _, rfl, ho⟩, hbw⟩
/- Chapter 11: KeyVariables, both sides. -/
open Go.RowKit
def keyAtV (l : List Rel) (r : Int) : Int := match l[r.toNat]? with
 | some q => q.key
 | none => 0
def keyVarsL (l : List Rel) (x : Atm) : List Int :=
 if (inB x.rel 0 ((l.length : Int) - 1) && inB (keyAtV l x.rel) 0 (x.terms.length : Int)) = true then varsL (x.terms.take (keyAtV l x.rel).toNat) else []
theorem keyAtV_at (l : List Rel) (k : Nat) (hk : k < l.length) : keyAtV l (k : Int) = l[k].key := by
 unfold keyAtV
 simp [hk]
theorem isIndexV_any (i n : Int) (w : World) :
   Calls Tryd.prog 127 #[.int .i64 i, .int .i64 n] w fun e w' => e = .returned (.bool (inB i 0 (n - 1))) ∧ w = w' := by
 unfold inB
 have e : decide (i ≤ n - 1) = decide (i < n) := by simp; omega
 rw [e]
 clear e
 by_cases h : 0 ≤ i
 · go_enter Tryd.func127, Tryd.ntmps127
   go_wp2
   go_ret
   exact ⟨by simp; try omega, rfl⟩
 · go_enter Tryd.func127, Tryd.ntmps127
   go_wp2
   go_ret
   exact ⟨by simp; try omega, rfl⟩
set_option maxHeartbeats 1600000 in
theorem implKeyVariables_c {a0 ax : Option Addr} {cap0 cx : Nat} {l : List Rel} {x : Atm} {w : World} (h : At (cSlice cRel) w l [.slice a0 l.length cap0]) (h1 : At cAtm w x [.int .i64 x.rel, .slice ax x.terms.length cx]) :
   Calls Tryd.prog 148 #[.slice a0 l.length cap0, .agg #[.int .i64 x.rel, .slice ax x.terms.length cx]] w fun e w' => (∃ a cap, e = .returned (.slice a (keyVarsL l x).length cap) ∧ Own (cSlice cInt) w.heap.size w' (keyVarsL l x) [.slice a (keyVarsL l x).length cap]) ∧ Below w.heap.size w w' := by
 have hX := (cAtm_inv h1).1
 have hcx := slice_cap hX
 have hm := (slice_len h).2
 have hmx := (slice_len hX).2
 unfold maxLen at hm hmx
 have Hr : Hid (∀ w' : World, Below w.heap.size w w' → ∀ j (hj : j < l.length), _) := fun w' hb j hj => at_Relation (Cod.ok_below h hb) j hj
 have HI : Hid (∀ ww, Calls Tryd.prog 127 #[.int .i64 x.rel, .int .i64 l.length] ww fun e w' => e = .returned (.bool (inB x.rel 0 ((l.length : Int) - 1))) ∧ ww = w') := fun ww => isIndexV_any _ _ _
 have Hv : Hid (∀ ww p, p ≤ x.terms.length → Below w.heap.size w ww → Calls Tryd.prog 162 #[.slice ax p cx] ww fun e w' => (∃ a cap, e = .returned (.slice a (varsL (x.terms.take p)).length cap) ∧ Own (cSlice cInt) ww.heap.size w' (varsL (x.terms.take p)) [.slice a (varsL (x.terms.take p)).length cap]) ∧ Below ww.heap.size ww w') := by
   intro ww p hp hb
   have h := variablesOf_c (At.below (ints_take hX p hp) hb (Nat.le_refl _))
   rw [show (x.terms.take p).length = p by simp; omega] at h
   exact h
 unfold keyVarsL
 clear h h1 hX
 obtain ⟨rx, vx⟩ := x
 simp only at *
 cases hV : inB rx 0 ((l.length : Int) - 1) with
 | false =>
   rw [hV] at HI
   rw [Bool.false_and, if_neg Bool.false_ne_true]
   clear hV Hv Hr hcx
   generalize vx.length = n at *
   generalize l.length = nl at *
   have ho : ∀ w1, Own (cSlice cInt) w.heap.size w1 [] [.slice none 0 0] := fun w1 => Own.nil _ _
   go_enter Tryd.func148, Tryd.ntmps148
   go_wp2_with fail
   refine (HI.out _).mono ?_
   rintro e w1 ⟨rfl, rfl⟩
   go_wp2
   go_ret
   exact ⟨⟨_, _, rfl, ho _⟩, by go_grown⟩
 | true =>
   rw [hV] at HI
   rw [Bool.true_and]
   have h2 : 0 ≤ rx ∧ rx ≤ (l.length : Int) - 1 := by unfold inB at hV; simpa using hV
   obtain ⟨k, rfl⟩ := Int.eq_ofNat_of_zero_le h2.1
   have hk : k < l.length := by omega
   rw [keyAtV_at l k hk]
   clear hV h2
   have HR : Hid (∀ w' : World, Below w.heap.size w w' → ∃ b off, a0 = some ⟨b, off, none⟩ ∧ w'.cell? ⟨b, off + k * 3 + 2, none⟩ = some (.int .i64 l[k].key)) := fun w' hb => by
     obtain ⟨b, off, e, _, _, _, c2, _⟩ := Hr.out w' hb k hk
     exact ⟨b, off, e, c2⟩
   clear Hr
   generalize l[k].key = q at *
   obtain ⟨n, hn⟩ : ∃ n : Nat, vx.length = n := ⟨_, rfl⟩
   rw [hn] at Hv hcx hmx ⊢
   clear hn
   generalize l.length = nl at *
   have ho : ∀ w1, Own (cSlice cInt) w.heap.size w1 [] [.slice none 0 0] := fun w1 => Own.nil _ _
   obtain ⟨wx, hwx⟩ : ∃ wx, wx = w.alloc (Obj.cells #[.int .i64 (k : Int), .slice ax n cx] 95) := ⟨_, rfl⟩
   have hb0 : Below w.heap.size w wx := by rw [hwx]; go_grown
   have p0 : wx.cell? ⟨w.heap.size, 0, none⟩ = some (.int .i64 (k : Int)) := by rw [hwx]; go_simp
   have p1 : wx.cell? ⟨w.heap.size, 1, none⟩ = some (.slice ax n cx) := by rw [hwx]; go_simp
   obtain ⟨b, off, rfl, c2⟩ := HR.out wx hb0
   have Hwx := Lib.hid hwx
   clear hwx HR
   by_cases g0 : q < 0
   · rw [if_neg (by unfold inB; simp; omega)]
     clear Hv
     go_enter Tryd.func148, Tryd.ntmps148
     go_wp2_with fail
     rw [← Hwx.out]
     clear Hwx
     refine (HI.out _).mono ?_
     rintro e w1 ⟨rfl, rfl⟩
     go_wp2
     go_ret
     exact ⟨⟨_, _, rfl, ho _⟩, hb0⟩
   · by_cases g1 : q > (n : Int)
     · rw [if_neg (by unfold inB; simp; omega)]
       clear Hv
       go_enter Tryd.func148, Tryd.ntmps148
       go_wp2_with fail
       rw [← Hwx.out]
       clear Hwx
       refine (HI.out _).mono ?_
       rintro e w1 ⟨rfl, rfl⟩
       go_wp2
       go_ret
       exact ⟨⟨_, _, rfl, ho _⟩, hb0⟩
     · rw [if_pos (by unfold inB; simp; omega)]
       obtain ⟨p, rfl⟩ := Int.eq_ofNat_of_zero_le (show 0 ≤ q by omega)
       have hp : p ≤ n := by omega
       have Hv2 : Hid (Calls Tryd.prog 162 #[.slice ax p cx] wx fun e w' => (∃ a cap, e = .returned (.slice a (varsL (vx.take p)).length cap) ∧ Own (cSlice cInt) wx.heap.size w' (varsL (vx.take p)) [.slice a (varsL (vx.take p)).length cap]) ∧ Below wx.heap.size wx w') := Hv.out wx p hp hb0
       rw [show ((p : Int)).toNat = p from rfl]
       clear Hv ho
       generalize varsL (vx.take p) = V at *
       have i0' : (0 : Int) ≤ (p : Int) := Int.natCast_nonneg _
       have i1' : (p : Int) ≤ (cx : Int) := by omega
       go_enter Tryd.func148, Tryd.ntmps148
       go_wp2_with fail
       rw [← Hwx.out]
       clear Hwx
       refine (HI.out _).mono ?_
       rintro e w1 ⟨rfl, rfl⟩
       go_wp2_with fail
       refine Hv2.out.mono ?_
       rintro e w2 ⟨⟨a', cap', rfl, ho⟩, hb2⟩
       go_wp2
       go_ret
       exact ⟨⟨_, _, rfl, Own.mono ho hb0.size⟩, Below.next hb0 hb2⟩
set_option maxHeartbeats 3200000 in
theorem specKeyVariables_c {a0 ax : Option Addr} {cap0 cx : Nat} {l : List Rel} {x : Atm} {w : World} (h : At (cSlice cRel) w l [.slice a0 l.length cap0]) (h1 : At cAtm w x [.int .i64 x.rel, .slice ax x.terms.length cx]) :
   Calls Tryd.prog 121 #[.slice a0 l.length cap0, .agg #[.int .i64 x.rel, .slice ax x.terms.length cx]] w fun e w' => (∃ a cap, e = .returned (.slice a (keyVarsL l x).length cap) ∧ Own (cSlice cInt) w.heap.size w' (keyVarsL l x) [.slice a (keyVarsL l x).length cap]) ∧ Below w.heap.size w w' := by
 have hX := (cAtm_inv h1).1
 have hcx := slice_cap hX
 have hm := (slice_len h).2
 have hmx := (slice_len hX).2
 unfold maxLen at hm hmx
 have Hr : Hid (∀ w' : World, Below w.heap.size w w' → ∀ j (hj : j < l.length), _) := fun w' hb j hj => at_Relation (Cod.ok_below h hb) j hj
 have HI : Hid (∀ ww, Calls Tryd.prog 67 #[.int .i64 x.rel, .int .i64 0, .int .i64 ((l.length : Int) - 1)] ww fun e w' => e = .returned (.bool (inB x.rel 0 ((l.length : Int) - 1))) ∧ Below ww.heap.size ww w') := fun ww => (l1In_any _ _ _ _).mono (by rintro e w' ⟨rfl, rfl⟩; exact ⟨rfl, Below.refl _ _⟩)
 have Hw : Hid (IntKind.i64.wrap ((l.length : Int) - 1) = (l.length : Int) - 1) := by show _ = _; rw [IntKind.wrap_i64]; omega
 have Hv : Hid (∀ ww p, p ≤ x.terms.length → Below w.heap.size w ww → Calls Tryd.prog 122 #[.agg #[.int .i64 0, .slice ax p cx]] ww fun e w' => (∃ a cap, e = .returned (.slice a (varsL (x.terms.take p)).length cap) ∧ Own (cSlice cInt) ww.heap.size w' (varsL (x.terms.take p)) [.slice a (varsL (x.terms.take p)).length cap]) ∧ Below ww.heap.size ww w') := by
   intro ww p hp hb
   have h3 := At.below (ints_take hX p hp) hb (Nat.le_refl _)
   have h4 : At cAtm ww ⟨0, x.terms.take p⟩ [.int .i64 0, .slice ax (x.terms.take p).length cx] := ⟨[_], [_], rfl, ⟨rfl, by show inR (0 : Int); unfold inR; omega⟩, h3⟩
   have h := specAtomVariables_c h4
   simp only at h
   rw [show (x.terms.take p).length = p by simp; omega] at h
   exact h
 unfold keyVarsL
 clear h h1 hX
 obtain ⟨rx, vx⟩ := x
 simp only at *
 obtain ⟨wx, hwx⟩ : ∃ wx, wx = w.alloc (Obj.cells #[.int .i64 rx, .slice ax vx.length cx] 95) := ⟨_, rfl⟩
 have hb0 : Below w.heap.size w wx := by rw [hwx]; go_grown
 have p0 : wx.cell? ⟨w.heap.size, 0, none⟩ = some (.int .i64 rx) := by rw [hwx]; go_simp
 have p1 : wx.cell? ⟨w.heap.size, 1, none⟩ = some (.slice ax vx.length cx) := by rw [hwx]; go_simp
 have P0 := grow_cell p0
 have P1 := grow_cell p1
 have Hwx := Lib.hid hwx
 clear hwx
 cases hV : inB rx 0 ((l.length : Int) - 1) with
 | false =>
   rw [hV] at HI
   rw [Bool.false_and, if_neg Bool.false_ne_true]
   clear hV Hv Hr hcx
   generalize vx.length = n at *
   generalize l.length = nl at *
   go_enter Tryd.func121, Tryd.ntmps121
   go_wp2_with fail
   rw [← Hwx.out]
   clear Hwx
   refine wp_region_grow (by kernel_rfl) (by kernel_rfl) ?_
   repeat (go_big_quiet_step ((go_at_call 67; (try rw [Hw.out]); exact Calls.grow fun ww h => HI.out ww)))
   refine wpQuiet_nil ?_
   rintro _ ⟨nq, rfl⟩
   have hbn : Below w.heap.size w nq.W := hb0.trans (nq.below.mono hb0.size)
   have ho : Own (cSlice cInt) w.heap.size (nq.W.alloc (Obj.cells #[] 3)) [] [.slice (some ⟨nq.W.heap.size, 0, none⟩) 0 0] := Own.mono (own_ints (l := []) (row_emptyV nq.W 3 nq.W.heap.size (Nat.le_refl _)) (by simp)) hbn.size
   go_wp2
   go_ret
   exact ⟨⟨_, _, rfl, ho⟩, hbn.trans ((by go_grown : Below nq.W.heap.size nq.W _).mono hbn.size)⟩
 | true =>
   rw [hV] at HI
   rw [Bool.true_and]
   have h2 : 0 ≤ rx ∧ rx ≤ (l.length : Int) - 1 := by unfold inB at hV; simpa using hV
   obtain ⟨k, rfl⟩ := Int.eq_ofNat_of_zero_le h2.1
   have hk : k < l.length := by omega
   rw [keyAtV_at l k hk]
   clear hV h2
   have HR : Hid (∀ w' : World, Below w.heap.size w w' → ∃ b off, a0 = some ⟨b, off, none⟩ ∧ w'.cell? ⟨b, off + k * 3 + 2, none⟩ = some (.int .i64 l[k].key)) := fun w' hb => by
     obtain ⟨b, off, e, _, _, _, c2, _⟩ := Hr.out w' hb k hk
     exact ⟨b, off, e, c2⟩
   clear Hr
   generalize l[k].key = q at *
   obtain ⟨n, hn⟩ : ∃ n : Nat, vx.length = n := ⟨_, rfl⟩
   rw [hn] at Hv hcx hmx P1 p1 Hwx ⊢
   clear hn
   have HJ : Hid (∀ ww, Calls Tryd.prog 67 #[.int .i64 q, .int .i64 0, .int .i64 (n : Int)] ww fun e w' => e = .returned (.bool (inB q 0 (n : Int))) ∧ Below ww.heap.size ww w') := fun ww => (l1In_any _ _ _ _).mono (by rintro e w' ⟨rfl, rfl⟩; exact ⟨rfl, Below.refl _ _⟩)
   obtain ⟨nl, hnl⟩ : ∃ n : Nat, l.length = n := ⟨_, rfl⟩
   rw [hnl] at hm HI Hw hk ⊢
   clear hnl
   have HJ1 : inB q 0 (n : Int) = true → 0 ≤ q ∧ q ≤ (n : Int) := by unfold inB; simp
   obtain ⟨b, off, rfl, c2⟩ := HR.out wx hb0
   have C2 := grow_cell c2
   clear HR
   generalize inB q 0 (n : Int) = J at *
   cases J with
   | false =>
     rw [if_neg Bool.false_ne_true]
     clear HJ1 Hv p0 p1 c2
     go_enter Tryd.func121, Tryd.ntmps121
     go_wp2_with fail
     rw [← Hwx.out]
     clear Hwx
     refine wp_region_grow (by kernel_rfl) (by kernel_rfl) ?_
     repeat (go_big_quiet_step (first | (go_at_call_of 67 (Value.int .i64 q); exact Calls.grow fun ww h => HJ.out ww) | (go_at_call_of 67 (Value.int .i64 (k : Int)); (try rw [Hw.out]); exact Calls.grow fun ww h => HI.out ww)))
     refine wpQuiet_nil ?_
     rintro _ ⟨nq, rfl⟩
     have hbn : Below w.heap.size w nq.W := hb0.trans (nq.below.mono hb0.size)
     have ho : Own (cSlice cInt) w.heap.size (nq.W.alloc (Obj.cells #[] 3)) [] [.slice (some ⟨nq.W.heap.size, 0, none⟩) 0 0] := Own.mono (own_ints (l := []) (row_emptyV nq.W 3 nq.W.heap.size (Nat.le_refl _)) (by simp)) hbn.size
     go_wp2
     go_ret
     exact ⟨⟨_, _, rfl, ho⟩, hbn.trans ((by go_grown : Below nq.W.heap.size nq.W _).mono hbn.size)⟩
   | true =>
     rw [if_pos rfl]
     obtain ⟨hq0, hq1⟩ := HJ1 rfl
     clear HJ1
     obtain ⟨p, rfl⟩ := Int.eq_ofNat_of_zero_le hq0
     have hp : p ≤ n := by omega
     have Hv2 : Hid (∀ ww, Below w.heap.size w ww → Calls Tryd.prog 122 #[.agg #[.int .i64 0, .slice ax p cx]] ww fun e w' => (∃ a cap, e = .returned (.slice a (varsL (vx.take p)).length cap) ∧ Own (cSlice cInt) ww.heap.size w' (varsL (vx.take p)) [.slice a (varsL (vx.take p)).length cap]) ∧ Below ww.heap.size ww w') := fun ww hb => Hv.out ww p hp hb
     rw [show ((p : Int)).toNat = p from rfl]
     clear Hv
     generalize varsL (vx.take p) = V at *
     have i0' : (0 : Int) ≤ (p : Int) := Int.natCast_nonneg _
     have i1' : (p : Int) ≤ (cx : Int) := by omega
     have k0' : (0 : Int) ≤ (k : Int) := Int.natCast_nonneg _
     have k1' : (k : Int) < (nl : Int) := by omega
     go_enter Tryd.func121, Tryd.ntmps121
     go_wp2_with fail
     rw [← Hwx.out]
     clear Hwx
     refine wp_region_grow (by kernel_rfl) (by kernel_rfl) ?_
     repeat (go_big_quiet_step (first | (go_at_call_of 67 (Value.int .i64 (p : Int)); exact Calls.grow fun ww h => HJ.out ww) | (go_at_call_of 67 (Value.int .i64 (k : Int)); (try rw [Hw.out]); exact Calls.grow fun ww h => HI.out ww)))
     refine wpQuiet_nil ?_
     rintro _ ⟨nq, rfl⟩
     have hbn : Below w.heap.size w nq.W := hb0.trans (nq.below.mono hb0.size)
     replace p0 := P0 nq
     replace p1 := P1 nq
     replace c2 := C2 nq
     clear P0 P1 C2 hb0 HI HJ Hw
     generalize nq.W = w1 at *
     go_wp2_with fail
     go_region_held3 (fun w' => w'.cell? ⟨w.heap.size, 0, none⟩ = some (.int .i64 (k : Int)) ∧ w'.cell? ⟨w.heap.size, 1, none⟩ = some (.slice ax n cx) ∧ w'.cell? ⟨b, off + k * 3 + 2, none⟩ = some (.int .i64 (p : Int)))
       (first | go_keep | (go_split_ands; exact ⟨cell_next p0 hb2, cell_next p1 hb2, cell_next c2 hb2⟩))
       ((go_at_call 122; refine (Hv2.out _ (by first | exact hbn | exact hbn.drew | exact Below.drewN' hbn _)).mono ?_; rintro e w2 ⟨⟨a', cap', rfl, ho⟩, hb2⟩))
     go_wp2
     go_ret
     exact ⟨⟨_, _, rfl, Own.mono ho (by simpa using hbn.size)⟩, Below.next hbn hb2⟩
end

section
/- Chapter 10: terms: the model's and the program's functions that hand back plain values. -/
open Go.RowKit
theorem implConstantTerm_c {v : Int} (h1 : -9223372036854775808 ≤ v) (h2 : v ≤ 9223372036854775807) (w : World) : Calls Tryd.prog 151 #[.int .i64 v] w fun e w' => e = .returned (.int .i64 (-1 - v)) ∧ Below w.heap.size w w' := by
 have hw : wrap64 (-1 - v) = -1 - v := IntWalk.wrap64_in _ ⟨by omega, by omega⟩
 go_enter Tryd.func151, Tryd.ntmps151
 go_wp2
 go_ret
 exact ⟨rfl, by go_grown⟩
def termOk (t : Int) : Bool := inB (-1 - t) 0 9
def termVal (t : Int) : Int := if termOk t then -1 - t else 0
theorem implTermValue_c {t : Int} (h1 : -9223372036854775808 ≤ t) (h2 : t ≤ 9223372036854775807) (w : World) : Calls Tryd.prog 128 #[.int .i64 t] w fun e w' => e = .returned (.tuple #[.int .i64 (termVal t), .bool (termOk t)]) ∧ Below w.heap.size w w' := by
 have H : ∀ ww, Calls Tryd.prog 140 #[.int .i64 (-1 - t)] ww fun e w' => e = .returned (.bool (inB (-1 - t) 0 9)) ∧ ww = w' := fun ww => isValue_any _ _
 have H2 := fun ww => implConstantTerm_c h1 h2 ww
 unfold termVal termOk
 generalize inB (-1 - t) 0 9 = I at *
 cases I with
 | true =>
   go_enter Tryd.func128, Tryd.ntmps128
   go_wp2_with fail
   refine (H2 _).mono ?_
   rintro e w1 ⟨rfl, hb1⟩
   go_wp2_with (go_at_call 140; refine (H _).mono ?_; rintro e w' ⟨rfl, rfl⟩)
   go_ret2
   exact ⟨rfl, hb1⟩
 | false =>
   go_enter Tryd.func128, Tryd.ntmps128
   go_wp2_with fail
   refine (H2 _).mono ?_
   rintro e w1 ⟨rfl, hb1⟩
   go_wp2_with (go_at_call 140; refine (H _).mono ?_; rintro e w' ⟨rfl, rfl⟩)
   go_ret2
   exact ⟨rfl, hb1⟩
end

section
/- Chapter 4: ascending places among n: areIndices; the model's l4Set. -/
open Go.RowKit
def okPI : Option Int → Int → Bool
 | none, _ => true
 | some q, x => decide (q < x)
def ascI : Option Int → List Int → Bool
 | _, [] => true
 | p, x :: l => okPI p x && ascI (some x) l
def setIx (n : Int) (l : List Int) : Bool := l.all (fun x => inB x 0 (n - 1)) && ascI none l
def setFrom (n : Int) : Option Int → List Int → Bool
 | _, [] => true
 | p, x :: l => inB x 0 (n - 1) && (okPI p x && setFrom n (some x) l)
theorem isIndexX_any (i n : Int) (w : World) :
   Calls Tryd.prog 127 #[.int .i64 i, .int .i64 n] w fun e w' => e = .returned (.bool (inB i 0 (n - 1))) ∧ w = w' := by
 unfold inB
 have e : decide (i ≤ n - 1) = decide (i < n) := by simp; omega
 rw [e]
 clear e
 by_cases h : 0 ≤ i
 · go_enter Tryd.func127, Tryd.ntmps127
   go_wp2
   go_ret
   exact ⟨by simp; try omega, rfl⟩
 · go_enter Tryd.func127, Tryd.ntmps127
   go_wp2
   go_ret
   exact ⟨by simp; try omega, rfl⟩
end

section
/- MarkOne: MarkA MarkB MarkC MarkD. -/
/- The laws' marks: numbers written into every place of a datum, and read again. The text of a mark, marks in a slice of numbers. -/
open Go.RowKit
structure Only (F : List Nat) (w w' : World) : Prop where
 os : w'.os = w.os
 tape : w'.tape = w.tape
 output : w'.output = w.output
 size : w.heap.size ≤ w'.heap.size
 block : ∀ k, k < w.heap.size → k ∉ F → w'.heap[k]? = w.heap[k]?
def mpre (q : Nat) (acc : List UInt8) : List UInt8 := if q = 0 then acc else Lib.decDigits q ++ acc
def mT (m : Nat) : ByteArray := str (109 :: Lib.decDigits m)
open Go.RowKit
structure SL {α : Type} (c : Cod α) (F : List Nat) (g off : Nat) (G : Nat → List Nat) (es : Nat → List Value) (w : World) (l : List α) : Prop where
 gF : g ∈ F
 lt : ∀ k, k ∈ F → k < w.heap.size
 sub : ∀ j, j < l.length → ∀ k, k ∈ G j → k ∈ F ∧ k ≠ g
 dis : ∀ i j, i < l.length → j < l.length → i ≠ j → ∀ k, k ∈ G i → k ∉ G j
 fr : ∀ j, j < l.length * c.n → w.frozen? ⟨g, off + j, none⟩ = false
 el : ∀ j (hj : j < l.length), c.own (G j) w l[j] (es j) ∧ ∀ i, i < c.n → w.cell? ⟨g, off + j * c.n + i, none⟩ = (es j)[i]?
variable {α : Type} {c : Cod α}
def markL (mk : Nat → α → α) (lv : α → Nat) : Nat → List α → List α
 | _, [] => []
 | k, x :: l => mk k x :: markL mk lv (k + lv x) l
def lvs (lv : α → Nat) (l : List α) : Nat := (l.map lv).sum
def markI (k : Nat) (l : List Int) : List Int := markL (fun k _ => (k : Int)) (fun _ => 1) k l
open Go.RowKit
def markR (k : Nat) (_ : Rel) : Rel := ⟨mT k, ((k + 1 : Nat) : Int), ((k + 2 : Nat) : Int)⟩
def markRs (k : Nat) (l : List Rel) : List Rel := markL markR (fun _ => 3) k l
open Go.RowKit
end

section
/- QvOne: Qv1 Qv2 TyBo Qv3. -/
/- Chapter 11: isAtomOf, hasRelation, areAllUsed: the program's. -/
open Go.RowKit
def termIn (vars t : Int) : Bool := inB t (-10) (vars - 1)
def atomOk (l : List Rel) (vars : Int) (a : Atm) : Bool := inB a.rel 0 ((l.length : Int) - 1) && (decide ((a.terms.length : Int) = arityAt l a.rel) && a.terms.all (termIn vars))
theorem termIn_eq {vars t : Int} (h : 0 ≤ vars) : termIn vars t = (termOk t || inB t 0 (vars - 1)) := by
 unfold termIn termOk inB
 rw [Bool.eq_iff_iff]
 simp only [Bool.and_eq_true, Bool.or_eq_true, decide_eq_true_eq]
 omega
set_option maxHeartbeats 3200000 in
theorem isAtomOf_c {a0 a1 : Option Addr} {cap0 cap1 : Nat} {l : List Rel} {x : Atm} {vars : Int} {w : World} (hv : 0 ≤ vars) (h : At (cSlice cRel) w l [.slice a0 l.length cap0]) (h' : At cAtm w x [.int .i64 x.rel, .slice a1 x.terms.length cap1]) :
   Calls Tryd.prog 98 #[.slice a0 l.length cap0, .int .i64 vars, .agg #[.int .i64 x.rel, .slice a1 x.terms.length cap1]] w fun e w' => e = .returned (.bool (atomOk l vars x)) ∧ Below w.heap.size w w' := by
 have hm := (slice_len h).2
 have h1 := (cAtm_inv h').1
 have hm1 := (slice_len h1).2
 unfold maxLen at hm hm1
 have Hr : Hid (∀ w' : World, Below w.heap.size w w' → ∀ j (hj : j < l.length), _) := fun w' hb j hj => at_Relation (Cod.ok_below h hb) j hj
 have Hi : Hid (∀ w' : World, Below w.heap.size w w' → ∀ j (hj : j < x.terms.length), _) := fun w' hb j hj => ints_at (Cod.ok_below h1 hb) j hj
 have Hg := Lib.hid (ints_rng h1)
 clear h h' h1
 unfold atomOk
 obtain ⟨n, hn⟩ : ∃ n : Nat, l.length = n := ⟨_, rfl⟩
 have Hn := Lib.hid hn
 rw [hn] at hm ⊢
 clear hn
 obtain ⟨r, v⟩ := x
 simp only at *
 obtain ⟨nv, hnv⟩ : ∃ n : Nat, v.length = n := ⟨_, rfl⟩
 have Hnv := Lib.hid hnv
 rw [hnv] at hm1 ⊢
 clear hnv
 have Hl : Hid (∀ ww, Calls Tryd.prog 127 #[.int .i64 r, .int .i64 n] ww fun e w' => e = .returned (.bool (inB r 0 ((n : Int) - 1))) ∧ Below ww.heap.size ww w') := fun ww => (isIndexX_any _ _ _).mono (by rintro e w' ⟨rfl, rfl⟩; exact ⟨rfl, Below.refl _ _⟩)
 have hI : inB r 0 ((n : Int) - 1) = true → 0 ≤ r ∧ r ≤ (n : Int) - 1 := by unfold inB; simp
 generalize inB r 0 ((n : Int) - 1) = I at *
 obtain ⟨wx, hwx⟩ : ∃ wx, wx = w.alloc (Obj.cells #[.int .i64 r, .slice a1 nv cap1] 95) := ⟨_, rfl⟩
 have hb0 : Below w.heap.size w wx := by rw [hwx]; go_grown
 have p0 : wx.cell? ⟨w.heap.size, 0, none⟩ = some (.int .i64 r) := by rw [hwx]; go_simp
 have p1 : wx.cell? ⟨w.heap.size, 1, none⟩ = some (.slice a1 nv cap1) := by rw [hwx]; go_simp
 have Hwx := Lib.hid hwx
 clear hwx
 have P0 := grow_cell p0
 have P1 := grow_cell p1
 cases I with
 | false =>
   rw [Bool.false_and]
   clear hI Hr Hi
   go_enter Tryd.func98, Tryd.ntmps98
   go_wp2_with fail
   rw [← Hwx.out]
   clear Hwx
   refine wp_region_grow (by kernel_rfl) (by kernel_rfl) ?_
   repeat (go_big_quiet_step ((go_at_call 127; exact Calls.grow fun ww h => Hl.out ww)))
   refine wpQuiet_nil ?_
   rintro _ ⟨nq, rfl⟩
   have hbb2 : Below w.heap.size w nq.W := hb0.trans (nq.below.mono hb0.size)
   go_wp2
   go_ret
   exact ⟨rfl, hbb2⟩
 | true =>
   rw [Bool.true_and]
   obtain ⟨hr0, hr1⟩ := hI rfl
   clear hI
   obtain ⟨k, rfl⟩ := Int.eq_ofNat_of_zero_le hr0
   have hk : k < n := by omega
   have hkl : k < l.length := by rw [Hn.out]; exact hk
   have har : arityAt l (k : Int) = l[k].arity := by unfold arityAt; simp [hkl]
   rw [har]
   clear har
   have hTE : v.all (termIn vars) = v.all (fun t => termOk t || inB t 0 (vars - 1)) := by congr 1; funext t; exact termIn_eq hv
   rw [hTE]
   clear hTE
   generalize hR : v.all (fun t => termOk t || inB t 0 (vars - 1)) = R
   have HR : Hid ((v.drop 0).all (fun t => termOk t || inB t 0 (vars - 1)) = R) := hR
   clear hR
   obtain ⟨Q, hQ⟩ : ∃ Q : Bool, decide ((nv : Int) = l[k].arity) = Q := ⟨_, rfl⟩
   rw [hQ]
   have hne : ((nv : Int) != l[k].arity) = !Q := by rw [← hQ]; by_cases h : (nv : Int) = l[k].arity <;> simp [h]
   clear hQ
   obtain ⟨b, off, rfl, hbB, c0, c1, c2, hx⟩ := Hr.out _ hb0 k hkl
   have C1 := grow_cell c1
   have i1 : (0 : Int) ≤ (k : Int) := Int.natCast_nonneg _
   have i2 : (k : Int) < (n : Int) := by omega
   clear c0 c1 c2 hx
   generalize l[k] = q at *
   cases Q with
   | false =>
     rw [Bool.not_false] at hne
     rw [Bool.false_and]
     go_enter Tryd.func98, Tryd.ntmps98
     go_wp2_with fail
     rw [← Hwx.out]
     clear Hwx
     refine wp_region_grow (by kernel_rfl) (by kernel_rfl) ?_
     repeat (go_big_quiet_step ((go_at_call 127; exact Calls.grow fun ww h => Hl.out ww)))
     refine wpQuiet_nil ?_
     rintro _ ⟨nq, rfl⟩
     have hbb2 : Below w.heap.size w nq.W := hb0.trans (nq.below.mono hb0.size)
     go_wp2
     go_ret
     exact ⟨rfl, hbb2⟩
   | true =>
     rw [Bool.not_true] at hne
     rw [Bool.true_and]
     go_enter Tryd.func98, Tryd.ntmps98
     go_wp2_with fail
     rw [← Hwx.out]
     clear Hwx
     refine wp_region_grow (by kernel_rfl) (by kernel_rfl) ?_
     repeat (go_big_quiet_step ((go_at_call 127; exact Calls.grow fun ww h => Hl.out ww)))
     refine wpQuiet_nil ?_
     rintro _ ⟨nq, rfl⟩
     have hbb2 : Below w.heap.size w nq.W := hb0.trans (nq.below.mono hb0.size)
     have q1 := P1 nq
     have hlt := World.block_lt_of_cell? nq.W _ q1
     clear P0 P1 C1 p0 p1 hne
     generalize nq.W = wn at *
     clear nq
     go_wp2
     go_loopw [32] (fun iv wr => ∃ k : Nat, k ≤ nv ∧ iv = .int .i64 k ∧ Hid ((v.drop k).all (fun t => termOk t || inB t 0 (vars - 1)) = R) ∧ Below wn.heap.size wn wr) (fun iv _ => nv - (intOf iv).toNat)
     case atStart => exact ⟨0, by omega, by go_num, HR, Below.refl _ _⟩
     case round =>
       clear HR
       obtain ⟨j, hj, rfl, Hq, hb⟩ := hrel
       have hbw : Below w.heap.size w wr := hbb2.trans (hb.mono hbb2.size)
       by_cases hjn : j < nv
       · have hjl : j < v.length := by rw [Hnv.out]; exact hjn
         obtain ⟨b', off', rfl, hbB', d0⟩ := Hi.out _ hbw j hjl
         have Hst := Lib.hid (Hq.out.symm.trans (all_drop (fun t => termOk t || inB t 0 (vars - 1)) v j hjl))
         have hrz := Hg.out v[j] (List.getElem_mem hjl)
         unfold inR at hrz
         have Ht : Hid (∀ ww, Calls Tryd.prog 128 #[.int .i64 v[j]] ww fun e w' => e = .returned (.tuple #[.int .i64 (termVal v[j]), .bool (termOk v[j])]) ∧ Below ww.heap.size ww w') := fun ww => implTermValue_c hrz.1 hrz.2 ww
         have Hx : Hid (∀ ww, Calls Tryd.prog 127 #[.int .i64 v[j], .int .i64 vars] ww fun e w' => e = .returned (.bool (inB v[j] 0 (vars - 1))) ∧ ww = w') := fun ww => isIndexX_any _ _ _
         clear Hq
         generalize termVal v[j] = tv at *
         generalize termOk v[j] = T at *
         generalize inB v[j] 0 (vars - 1) = J at *
         generalize v[j] = z at *
         cases T with
         | true =>
           have Hs2 : Hid ((v.drop (j + 1)).all (fun t => termOk t || inB t 0 (vars - 1)) = R) := by have h := Hst.out; show _ = _; simpa using h.symm
           go_wp2_with fail
           refine (Ht.out _).mono ?_
           rintro e w2 ⟨rfl, hb2⟩
           go_wp2
           go_roundw
           case rel => exact ⟨j + 1, by omega, by go_num, Hs2, hb.trans (hb2.mono hb.size)⟩
           case measure => simp [intOf]; omega
         | false =>
           cases J with
           | true =>
             have Hs2 : Hid ((v.drop (j + 1)).all (fun t => termOk t || inB t 0 (vars - 1)) = R) := by have h := Hst.out; show _ = _; simpa using h.symm
             go_wp2_with fail
             refine (Ht.out _).mono ?_
             rintro e w2 ⟨rfl, hb2⟩
             go_wp2_with fail
             refine (Hx.out _).mono ?_
             rintro e w3 ⟨rfl, rfl⟩
             go_wp2
             go_roundw
             case rel => exact ⟨j + 1, by omega, by go_num, Hs2, hb.trans (hb2.mono hb.size)⟩
             case measure => simp [intOf]; omega
           | false =>
             have hR : R = false := by have h := Hst.out; simpa using h
             go_wp2_with fail
             refine (Ht.out _).mono ?_
             rintro e w2 ⟨rfl, hb2⟩
             go_wp2_with fail
             refine (Hx.out _).mono ?_
             rintro e w3 ⟨rfl, rfl⟩
             go_wp2
             go_ret
             exact ⟨by subst hR; rfl, hbw.trans (hb2.mono hbw.size)⟩
       · obtain rfl : j = nv := by omega
         have hR : R = true := by
           have := Hq.out
           rw [List.drop_eq_nil_of_le (by rw [Hnv.out]; exact Nat.le_refl _)] at this
           exact this.symm
         go_wp2
         go_ret
         exact ⟨by subst hR; rfl, hbw⟩
def relIs (r : Int) (y : Atm) : Bool := decide (y.rel = r)
def termHas (v : Int) (y : Atm) : Bool := y.terms.contains v
def allUsed (q : Qry) : Bool := (List.range q.vars.toNat).all fun (v : Nat) => q.atoms.any (termHas (v : Int))
/- Chapter 11: IsValidQuery, the program's. -/
open Go.RowKit
def atomsOk (l : List Rel) (vars : Int) : List Atm → List Atm → Bool
 | _, [] => true
 | p, a :: r => atomOk l vars a && (!(p.any (relIs a.rel)) && atomsOk l vars (p ++ [a]) r)
def validQ (l : List Rel) (q : Qry) : Bool := validRels l && (inB q.vars 0 4 && (inB (q.atoms.length : Int) 1 3 && (atomsOk l q.vars [] q.atoms && (allUsed q && setIx q.vars q.free))))
/- Slices of booleans: the laws' helpers on them (copy, equality, marks), as a row reads them. -/
open Go.RowKit
def bv (x : Bool) : Value := .bool x
def doneB (l : List Bool) (k n : Nat) : List Value := (l.take k).map bv ++ List.replicate (n - k) (bv false)
section
open Go.Deep
variable {H : Type} {enc : TypeId × Value → H} {P : Program} {w : World} {base : Nat} {spare : Nat → Bool} {held : Bool}
end
def markB (k : Nat) (l : List Bool) : List Bool := markL (fun k _ => decide (k % 3 = 0)) (fun _ => 1) k l
open Go.RowKit
def MetOk (w : World) (g : Nat) (M : Nat → Bool) : Prop := g < w.heap.size ∧ ∀ v, v < 4 → w.cell? ⟨g, v, none⟩ = some (.bool (M v)) ∧ w.frozen? ⟨g, v, none⟩ = false
def metF (ats : List Atm) (k : Nat) (ts : List Int) (j v : Nat) : Bool := (ats.take k).any (termHas (v : Int)) || (ts.take j).any fun t => decide (t = (v : Int))
end

section
/- Queries, atoms, their variables: what is proved of them, for the layer. Written by gen/aba.py. -/
open Go Go.Proofs Go.RowKit
namespace Ab
def atmS (x : Atm) : S := .a [.d (.v (.int .i64 x.rel)), .d (encIs x.terms)]
def qryS (x : Qry) : S := .a [.d (.v (.int .i64 x.vars)), .d (encAs x.atoms), .d (encIs x.free)]
theorem rels_cutQ {l : List Rel} (g : (eSlice eRel).good l) {w : World} {K : Nat → Nat → Prop} {ov : Nat → Value} {v : Value} (hK : ∀ b o, K b o → b < w.heap.size) (hr : RdS w (ghA K ov) (.d (encRs l)) v) :
   ∃ a cap, v = .slice a l.length cap ∧ At (cSlice cRel) w l [.slice a l.length cap] := by
 have h := (eSlice eRel).at1 (x := l) rfl g hK hr
 obtain ⟨a, cap, e, _⟩ := id h
 injection e with e
 subst e
 exact ⟨a, cap, rfl, h⟩
theorem atm_cut {x : Atm} (g : eAtm.good x) {w : World} {K : Nat → Nat → Prop} {ov : Nat → Value} {v : Value} (hK : ∀ b o, K b o → b < w.heap.size) (hr : RdS w (ghA K ov) (atmS x) v) :
   ∃ a cap, v = .agg #[.int .i64 x.rel, .slice a x.terms.length cap] ∧ At cAtm w x [.int .i64 x.rel, .slice a x.terms.length cap] := by
 obtain ⟨vs, rfl, h⟩ := eAtm.atA (x := x) g hK hr
 obtain ⟨a1, c1, rfl, h⟩ := cAtm_open h
 exact ⟨a1, c1, rfl, h⟩
theorem implKeyVariables_a {l : List Rel} {x : Atm} (gl : (eSlice eRel).good l) (gx : eAtm.good x) : AC Tryd.prog 148 [.d (encRs l), atmS x] (.o 0 (encIs (keyVarsL l x))) :=
 AC.own1 (p := eSlice eInt) Tryd.func148 rfl (by decide) rfl (fun w K cs ov hK hr => by
   simp only [RdSs] at hr
   obtain ⟨v0, _, rfl, q0, v1, _, rfl, q1, rfl⟩ := hr
   obtain ⟨u0_0, u0_1, rfl, h0⟩ := rels_cutQ gl hK q0
   obtain ⟨u1_0, u1_1, rfl, h1⟩ := atm_cut gx hK q1
   refine Calls.mono (implKeyVariables_c h0 h1) ?_
   rintro e w' ⟨⟨a, cap, he, hq⟩, hb⟩
   exact ⟨⟨_, he, hq⟩, hb⟩)
theorem implAtomVariables_a {x : Atm} (gx : eAtm.good x) : AC Tryd.prog 149 [atmS x] (.o 0 (encIs (varsL x.terms))) :=
 AC.own1 (p := eSlice eInt) Tryd.func149 rfl (by decide) rfl (fun w K cs ov hK hr => by
   simp only [RdSs] at hr
   obtain ⟨v0, _, rfl, q0, rfl⟩ := hr
   obtain ⟨u0_0, u0_1, rfl, h0⟩ := atm_cut gx hK q0
   refine Calls.mono (implAtomVariables_c h0) ?_
   rintro e w' ⟨⟨a, cap, he, hq⟩, hb⟩
   exact ⟨⟨_, he, hq⟩, hb⟩)
theorem specKeyVariables_a {l : List Rel} {x : Atm} (gl : (eSlice eRel).good l) (gx : eAtm.good x) : AC Tryd.prog 121 [.d (encRs l), atmS x] (.o 0 (encIs (keyVarsL l x))) :=
 AC.own1 (p := eSlice eInt) Tryd.func121 rfl (by decide) rfl (fun w K cs ov hK hr => by
   simp only [RdSs] at hr
   obtain ⟨v0, _, rfl, q0, v1, _, rfl, q1, rfl⟩ := hr
   obtain ⟨u0_0, u0_1, rfl, h0⟩ := rels_cutQ gl hK q0
   obtain ⟨u1_0, u1_1, rfl, h1⟩ := atm_cut gx hK q1
   refine Calls.mono (specKeyVariables_c h0 h1) ?_
   rintro e w' ⟨⟨a, cap, he, hq⟩, hb⟩
   exact ⟨⟨_, he, hq⟩, hb⟩)
theorem specAtomVariables_a {x : Atm} (gx : eAtm.good x) : AC Tryd.prog 122 [atmS x] (.o 0 (encIs (varsL x.terms))) :=
 AC.own1 (p := eSlice eInt) Tryd.func122 rfl (by decide) rfl (fun w K cs ov hK hr => by
   simp only [RdSs] at hr
   obtain ⟨v0, _, rfl, q0, rfl⟩ := hr
   obtain ⟨u0_0, u0_1, rfl, h0⟩ := atm_cut gx hK q0
   refine Calls.mono (specAtomVariables_c h0) ?_
   rintro e w' ⟨⟨a, cap, he, hq⟩, hb⟩
   exact ⟨⟨_, he, hq⟩, hb⟩)
theorem l7Has_a {l : List Int} {x : Int} (gl : (eSlice eInt).good l) : AC Tryd.prog 146 [.d (encIs l), .d (.v (.int .i64 x))] (.d (.v (.bool (l.contains x)))) :=
 AC.plain Tryd.func146 rfl (by decide) rfl (fun w K cs ov hK hr => by
   simp only [RdSs] at hr
   obtain ⟨v0, _, rfl, q0, v1, _, rfl, q1, rfl⟩ := hr
   obtain ⟨u0_0, u0_1, rfl, h0⟩ := ints_cut gl hK q0
   have := q1.int
   subst this
   exact l7Has_c h0)
theorem containsI_a {l : List Int} {x : Int} (gl : (eSlice eInt).good l) : AC Tryd.prog 132 [.d (encIs l), .d (.v (.int .i64 x))] (.d (.v (.bool (l.contains x)))) :=
 AC.plain Tryd.func132 rfl (by decide) rfl (fun w K cs ov hK hr => by
   simp only [RdSs] at hr
   obtain ⟨v0, _, rfl, q0, v1, _, rfl, q1, rfl⟩ := hr
   obtain ⟨u0_0, u0_1, rfl, h0⟩ := ints_cut gl hK q0
   have := q1.int
   subst this
   exact containsI_c h0)
end Ab
end

section
/- BlkOne: Blk BlkDb. -/
/- Blocks of numbers under a relation: built one by one, and as the classes of their first members. -/
def blk (R : Nat → Nat → Bool) (n i : Nat) : List Nat := (List.range n).filter (R i)
def isFst (R : Nat → Nat → Bool) (i : Nat) : Bool := (List.range i).all fun k => !R i k
def fsts (R : Nat → Nat → Bool) (n : Nat) : List Nat := (List.range n).filter (isFst R)
def blksS (R : Nat → Nat → Bool) (n : Nat) : List (List Nat) := (fsts R n).map (blk R n)
def addLast (bs : List (List Nat)) (i : Nat) : List (List Nat) := bs.set (bs.length - 1) (bs.getD (bs.length - 1) [] ++ [i])
def joins (R : Nat → Nat → Bool) (i : Nat) : Bool := decide (0 < i) && R (i - 1) i
def blksI (R : Nat → Nat → Bool) : Nat → List (List Nat)
 | 0 => []
 | i + 1 => if joins R i then addLast (blksI R i) i else blksI R i ++ [[i]]
structure Conv (R : Nat → Nat → Bool) (N : Nat) : Prop where
 refl : ∀ i, i < N → R i i = true
 symm : ∀ i j, i < N → j < N → R i j = R j i
 trans : ∀ i j k, i < N → j < N → k < N → R i j = true → R j k = true → R i k = true
 mid : ∀ i j k, i < j → j < k → k < N → R i k = true → R j k = true
variable {R : Nat → Nat → Bool} {N : Nat}
/- Chapter 5: facts with one key are neighbours in a valid database. -/
open Go.RowKit
def keyR (d : Dbs) (i k : Nat) : Bool := match d.facts[i]?, d.facts[k]? with | some x, some y => sameKey d.rels x y | _, _ => false
def ints (l : List Nat) : List Int := l.map (fun n : Nat => (n : Int))
def blockL (d : Dbs) (i : Int) : List Int := if validDb d && inB i 0 ((d.facts.length : Int) - 1) then ints (blk (keyR d) d.facts.length i.toNat) else []
def blocksL (d : Dbs) : List (List Int) := if validDb d then (blksI (keyR d) d.facts.length).map ints else []
end

section
/- Chapter 3: KeyOf, the model's and the program's; the model's HaveSameKey. -/
open Go.RowKit
end

section
/- Slices of slices that are being built: each finished element with memory of its own. -/
open Go.RowKit
def Bld (w0 H : Nat) (w : World) (v : Value) (l : List (List Int)) (F : List Nat) (css : List (List Value)) : Prop :=
 ownL (cSlice cInt) F w l css ∧ w.ownsRow w0 24 1 v l.length css.flatten ∧ (∀ k, k ∈ F → w0 ≤ k ∧ k < H ∧ v.ownBlock ≠ some k) ∧ (∀ g, v.ownBlock = some g → g < H) ∧ H ≤ w.heap.size
end

section
/- BlockOne: Block1 Block2 Lst Block3. -/
/- Chapter 5: the model's BlockOf. -/
open Go.RowKit
def blkPart (d : Dbs) (i k : Nat) : List Int := ints ((List.range k).filter (keyR d i))
open Go.RowKit
def blksPart (d : Dbs) (k : Nat) : List (List Int) := ((List.range k).filter (isFst (keyR d))).map fun i => ints (blk (keyR d) d.facts.length i)
open Go.RowKit
def Lst (w0 : Nat) (w : World) (gv cv : Nat) (P : List (List Int)) (q : List Int) (gh ch : Nat) (F : List Nat) (css : List (List Value)) : Prop :=
 ownL (cSlice cInt) F w P css ∧ w.ownsRow w0 24 1 (.slice (some ⟨gv, 0, none⟩) (P.length + 1) cv) (P.length + 1) (css.flatten ++ [.slice (some ⟨gh, 0, none⟩) q.length ch]) ∧
   w.ownsRow w0 3 1 (.slice (some ⟨gh, 0, none⟩) q.length ch) q.length (q.map iv) ∧ (∀ k, k ∈ F → w0 ≤ k ∧ k < w.heap.size ∧ k ≠ gv ∧ k ≠ gh) ∧ gv ≠ gh
/- Chapter 5: the program's Blocks. -/
open Go.RowKit
def bI (d : Dbs) (k : Nat) : List (List Int) := (blksI (keyR d) k).map ints
end

section
/- BlockTwo: Block5 Block6 Block7 Block8. -/
/- Chapter 5: ConflictingFacts, the model's and the program's. -/
open Go.RowKit
def confPart (d : Dbs) (k : Nat) : List Int := ints ((List.range k).filter fun i => decide (1 < (blk (keyR d) d.facts.length i).length))
def confL (d : Dbs) : List Int := if validDb d then confPart d d.facts.length else []
open Go.RowKit
def cfPart (L : List (List Int)) (j : Nat) : List Int := ((L.take j).filter fun b => decide (1 < b.length)).flatten
def consistent (d : Dbs) : Bool := validDb d && decide ((blocksL d).length = d.facts.length)
open Go.RowKit
def sizesL (d : Dbs) : List Int := (blocksL d).map fun b => (b.length : Int)
def szPart (L : List (List Int)) (k : Nat) : List Int := (L.take k).map fun b => (b.length : Int)
open Go.RowKit
def prodP (l : List Int) (k : Nat) : Int := (l.take k).foldl (· * ·) 1
def countL (d : Dbs) : Int := if validDb d then prodP (sizesL d) (sizesL d).length else 0
end

section
/- Functions of a database, for the layer. Written by gen/abdb.py. -/
open Go Go.Proofs Go.RowKit
namespace Ab
end Ab
end

section
/- Generic functions, at the program's types, over any function value that captures only what is read. Written by gen/abgen.py. -/
open Go Go.Proofs Go.RowKit
namespace Ab
structure Caps (caps : List S) : Prop where
 argl : ∀ m, S.argl m caps = some caps
 readsl : ∀ m, S.readsl m caps = []
 wfs : ∀ m, S.wfs m caps
theorem caps_nil : Caps [] := ⟨fun _ => rfl, fun _ => rfl, fun _ => trivial⟩
theorem caps_one (c : List D) (k : Nat) : Caps [.e c k] := ⟨fun _ => rfl, fun _ => rfl, fun _ => ⟨trivial, trivial⟩⟩
def idxOf {α : Type} (p : α → Bool) (l : List α) : Int := if l.findIdx p < l.length then (l.findIdx p : Int) else -1
theorem mkA {α β : Type} (e : β → List D) (F : α → β) (l : List α) (i : Nat) (z : List D) (h : i < l.length) : (((l.take i).map F).map e ++ List.replicate (l.length - i) z)[i]? = some z := by
 have k : (((l.take i).map F).map e).length = i := by simp; omega
 rw [List.getElem?_append_right (by omega), k, Nat.sub_self, show l.length - i = l.length - (i + 1) + 1 by omega, List.replicate_succ]
 rfl
theorem mkA_set {α β : Type} (e : β → List D) (F : α → β) (l : List α) (i : Nat) (z : List D) (h : i < l.length) : (((l.take i).map F).map e ++ List.replicate (l.length - i) z).set i (e (F l[i])) = ((l.take (i + 1)).map F).map e ++ List.replicate (l.length - (i + 1)) z := by
 have k : (((l.take i).map F).map e).length = i := by simp; omega
 rw [List.set_append_right _ _ (by omega), k, Nat.sub_self, show l.length - i = l.length - (i + 1) + 1 by omega, List.replicate_succ, List.set_cons_zero, ← List.take_append_getElem h, List.map_append, List.map_append]
 simp
theorem mkA_len {α β : Type} (e : β → List D) (F : α → β) (l : List α) (i : Nat) (z : List D) (h : i ≤ l.length) : (((l.take i).map F).map e ++ List.replicate (l.length - i) z).length = l.length := by simp; omega
end Ab
end

section
/- isIndex and the model's l1In. -/
open Go Go.Proofs Go.RowKit
namespace Ab
theorem isIndex_a (i n : Int) : AC Tryd.prog 127 [.d (.v (.int .i64 i)), .d (.v (.int .i64 n))] (.d (.v (.bool (decide (0 ≤ i) && decide (i < n))))) := by
 refine AC.intro Tryd.func127 rfl (by decide) (by simp [S.res, S.ress]) (by simp [S.os, S.oss]) (by simp [S.wfs, S.wf, dbS]) (by simp [Tryd.f127]) ?_; rw [Tryd.ntmps127]
 by_cases h1 : i ≥ 0
 · have h2 : 0 ≤ i := h1
   repeat (first | refine aq ?_ | refine ap (by rfl : apartB 0 _ _ = true) ?_ | refine ak ?_ | refine ab ?_ | refine al ?_ | ((first | refine ar ?_ | refine ad ty_mix (by kernel_rfl) ?_ | refine ac ?_ | refine ae ?_ | with_reducible refine Later.mk ?_); simp only [evD, evL, iteL, aX, St.said, St.asked, evStep, evOp, evP, St.init, St.app, srcStep, kill, setMany, loadS, fieldS, buildS, toks, Fin, upd_app, Array.isEmpty, reduceLT, reduceAdd, reduceMul, reduceLeDiff, reduceSub, reduceEqDiff, reduceCtorEq, reduceIte, ↓Opt.is, ↓Opt.no, ↓Asks.yes, ↓Asks.no, tyL, encL, h1, asB]))
   refine Ab.ret ?_; simp only [evD, evL, iteL, aX, St.said, St.asked, evStep, evOp, evP, St.init, St.app, srcStep, kill, setMany, loadS, fieldS, buildS, toks, Fin, upd_app, Array.isEmpty, reduceLT, reduceAdd, reduceMul, reduceLeDiff, reduceSub, reduceEqDiff, reduceCtorEq, reduceIte, ↓Opt.is, ↓Opt.no, ↓Asks.yes, ↓Asks.no, tyL, List.nodup_cons, encL, Tryd.f127, h1, h2]
 · have h2 : ¬ 0 ≤ i := h1
   repeat (first | refine aq ?_ | refine ap (by rfl : apartB 0 _ _ = true) ?_ | refine ak ?_ | refine ab ?_ | refine al ?_ | ((first | refine ar ?_ | refine ad ty_mix (by kernel_rfl) ?_ | refine ac ?_ | refine ae ?_ | with_reducible refine Later.mk ?_); simp only [evD, evL, iteL, aX, St.said, St.asked, evStep, evOp, evP, St.init, St.app, srcStep, kill, setMany, loadS, fieldS, buildS, toks, Fin, upd_app, Array.isEmpty, reduceLT, reduceAdd, reduceMul, reduceLeDiff, reduceSub, reduceEqDiff, reduceCtorEq, reduceIte, ↓Opt.is, ↓Opt.no, ↓Asks.yes, ↓Asks.no, tyL, encL, h1, asB]))
   refine Ab.ret ?_; simp only [evD, evL, iteL, aX, St.said, St.asked, evStep, evOp, evP, St.init, St.app, srcStep, kill, setMany, loadS, fieldS, buildS, toks, Fin, upd_app, Array.isEmpty, reduceLT, reduceAdd, reduceMul, reduceLeDiff, reduceSub, reduceEqDiff, reduceCtorEq, reduceIte, ↓Opt.is, ↓Opt.no, ↓Asks.yes, ↓Asks.no, tyL, List.nodup_cons, encL, Tryd.f127, h1, h2]
theorem in_b (n lo hi : Int) : AC Tryd.prog 67 [.d (.v (.int .i64 n)), .d (.v (.int .i64 lo)), .d (.v (.int .i64 hi))] (.d (.v (.bool (inB n lo hi)))) := by
 refine AC.intro Tryd.func67 rfl (by decide) (by simp [S.res, S.ress]) (by simp [S.os, S.oss]) (by simp [S.wfs, S.wf, dbS]) (by simp [Tryd.f67]) ?_; rw [Tryd.ntmps67]
 unfold inB
 by_cases h1 : n ≥ lo
 · have h2 : lo ≤ n := h1
   repeat (first | refine aq ?_ | refine ap (by rfl : apartB 0 _ _ = true) ?_ | refine ak ?_ | refine ab ?_ | refine al ?_ | ((first | refine ar ?_ | refine ad ty_mix (by kernel_rfl) ?_ | refine ac ?_ | refine ae ?_ | with_reducible refine Later.mk ?_); simp only [evD, evL, iteL, aX, St.said, St.asked, evStep, evOp, evP, St.init, St.app, srcStep, kill, setMany, loadS, fieldS, buildS, toks, Fin, upd_app, Array.isEmpty, reduceLT, reduceAdd, reduceMul, reduceLeDiff, reduceSub, reduceEqDiff, reduceCtorEq, reduceIte, ↓Opt.is, ↓Opt.no, ↓Asks.yes, ↓Asks.no, tyL, encL, h1, asB]))
   refine Ab.ret ?_; simp only [evD, evL, iteL, aX, St.said, St.asked, evStep, evOp, evP, St.init, St.app, srcStep, kill, setMany, loadS, fieldS, buildS, toks, Fin, upd_app, Array.isEmpty, reduceLT, reduceAdd, reduceMul, reduceLeDiff, reduceSub, reduceEqDiff, reduceCtorEq, reduceIte, ↓Opt.is, ↓Opt.no, ↓Asks.yes, ↓Asks.no, tyL, List.nodup_cons, encL, Tryd.f67, h1, h2]
 · have h2 : ¬ lo ≤ n := h1
   repeat (first | refine aq ?_ | refine ap (by rfl : apartB 0 _ _ = true) ?_ | refine ak ?_ | refine ab ?_ | refine al ?_ | ((first | refine ar ?_ | refine ad ty_mix (by kernel_rfl) ?_ | refine ac ?_ | refine ae ?_ | with_reducible refine Later.mk ?_); simp only [evD, evL, iteL, aX, St.said, St.asked, evStep, evOp, evP, St.init, St.app, srcStep, kill, setMany, loadS, fieldS, buildS, toks, Fin, upd_app, Array.isEmpty, reduceLT, reduceAdd, reduceMul, reduceLeDiff, reduceSub, reduceEqDiff, reduceCtorEq, reduceIte, ↓Opt.is, ↓Opt.no, ↓Asks.yes, ↓Asks.no, tyL, encL, h1, asB]))
   refine Ab.ret ?_; simp only [evD, evL, iteL, aX, St.said, St.asked, evStep, evOp, evP, St.init, St.app, srcStep, kill, setMany, loadS, fieldS, buildS, toks, Fin, upd_app, Array.isEmpty, reduceLT, reduceAdd, reduceMul, reduceLeDiff, reduceSub, reduceEqDiff, reduceCtorEq, reduceIte, ↓Opt.is, ↓Opt.no, ↓Asks.yes, ↓Asks.no, tyL, List.nodup_cons, encL, Tryd.f67, h1, h2]
end Ab
end

section
/- Strictly ascending indices. -/
open Go.RowKit
end

section
/- RnkOne: In4 RepP AbSel Rank. -/
/- The model's l1In and l4Set. -/
open Go Go.Proofs Go.RowKit
namespace Ab
end Ab
/- Chapters 5 and 7: partial repairs, repairs and their ranks, in plain words. -/
open Go.RowKit
def selF (d : Dbs) (l : List Int) : List Fct := l.filterMap fun i => d.facts[i.toNat]?
def selOk (d : Dbs) (l : List Int) : Bool := validDb d && setIx d.facts.length l
def selD (d : Dbs) (l : List Int) : Dbs := if selOk d l then ⟨d.rels, selF d l⟩ else ⟨[], []⟩
def partialR (d : Dbs) (l : List Int) : Bool := selOk d l && consistent (selD d l)
def isRepair (d : Dbs) (l : List Int) : Bool := partialR d l && decide (l.length = (blocksL d).length)
def picks : List (List Nat) → List Nat → Prop
 | [], [] => True
 | b :: bs, x :: L => x ∈ b ∧ picks bs L
 | _, _ => False
/- Chapters 4, 5, 7: copies, SelectFacts, partial repairs, repairs. -/
open Go Go.Proofs Go.RowKit
namespace Ab
end Ab
open Go Go.Proofs Go.RowKit
namespace Ab
def rankP (L : List (List Int)) (l : List Int) : Nat → Int
 | 0 => 0
 | i + 1 => IntKind.i64.wrap (IntKind.i64.wrap (rankP L l i * ((L.getD i []).length : Int)) + idxOf (fun y => l.getD i 0 == y) (L.getD i []))
def rankL (d : Dbs) (l : List Int) : Int := if isRepair d l then rankP (blocksL d) l (blocksL d).length else 0
end Ab
end

section
/- Steps of a rewriting in the layer. -/
open Go Go.Proofs Go.RowKit
namespace Ab
def encSt (x : Rst) : List D := [.v (.int .i64 x.atom.rel), encIs x.atom.terms, encIs x.ex, encIs x.un]
def encSts (l : List Rst) : D := .sl (l.map encSt)
def eRst : Enc cRst := eMap _ (ePair eAtm (ePair (eSlice eInt) (eSlice eInt)))
theorem getSt {l : List Rst} {i : Nat} (h : i < l.length) : (l.map encSt)[i]? = some [.v (.int .i64 l[i].atom.rel), encIs l[i].atom.terms, encIs l[i].ex, encIs l[i].un] := by simp [h, encSt]
def rstS (x : Rst) : S := .a [.d (.v (.int .i64 x.atom.rel)), .d (encIs x.atom.terms), .d (encIs x.ex), .d (encIs x.un)]
theorem sizeRst_len {l : List Rst} (h : sizeRewritingStepS l ≤ 1048576) : l.length ≤ 1048576 := Nat.le_trans (Nat.le_add_right _ _) h
theorem sizeRst_each {l : List Rst} (h : sizeRewritingStepS l ≤ 1048576) : ∀ x, x ∈ l → x.ex.length ≤ 1048576 ∧ x.un.length ≤ 1048576 := fun x hx => by
 obtain ⟨j, hj, rfl⟩ := List.mem_iff_getElem.1 hx
 have h1 := sumRewritingStep_ge l j hj
 unfold sizeRewritingStepS at h
 have h2 : sizeRewritingStep l[j] ≤ 1048576 := by omega
 unfold sizeRewritingStep at h2
 omega
end Ab
end

section
/- Chapter 17: valid rewritings, both sides. -/
open Go Go.Proofs Go.RowKit
namespace Ab
theorem lHas_a {l m : List Int} (gl : (eSlice eInt).good l) (hm : m.length ≤ 1048576) : AC Tryd.prog 120 [.d (encIs l), .d (encIs m)] (.d (.v (.bool (m.all fun x => l.contains x)))) := by
 refine AC.intro Tryd.func120 rfl (by decide) (by simp [S.res, S.ress]) (by simp [S.os, S.oss]) (by simp [S.wfs, S.wf, dbS]) (by simp [Tryd.f120]) ?_; rw [Tryd.ntmps120]
 repeat (first | refine aq ?_ | refine ap (by rfl : apartB 0 _ _ = true) ?_ | refine ak ?_ | refine ab ?_ | refine al ?_ | ((first | refine ar ?_ | refine ad ty_mix (by kernel_rfl) ?_ | refine ac ?_ | refine ae ?_ | with_reducible refine Later.mk ?_); simp only [evD, evL, iteL, aX, St.said, St.asked, evStep, evOp, evP, St.init, St.app, srcStep, kill, setMany, loadS, fieldS, buildS, toks, Fin, upd_app, Array.isEmpty, reduceLT, reduceAdd, reduceMul, reduceLeDiff, reduceSub, reduceEqDiff, reduceCtorEq, reduceIte, ↓Opt.is, ↓Opt.no, ↓Asks.yes, ↓Asks.no, tyL, encL, asB]))
 refine Ab.loopI m.length (fun i => ((m.take i).all fun x => l.contains x) = true) (fun i => mkS 19 [(0, .d (.sl (List.map encI l))), (1, .d (.sl (List.map encI m))), (5, .d (.v (.int .i64 (i : Int))))] [] 100) rfl ?_ ?_
 · ((first | refine Le.mk rfl ?_ ?_ | refine LeTo.mk rfl ?_ ?_) <;> simp only [evD, evL, iteL, aX, St.said, St.asked, evStep, evOp, evP, St.init, St.app, srcStep, kill, setMany, loadS, fieldS, buildS, toks, Fin, upd_app, Array.isEmpty, reduceLT, reduceAdd, reduceMul, reduceLeDiff, reduceSub, reduceEqDiff, reduceCtorEq, reduceIte, ↓Opt.is, ↓Opt.no, ↓Asks.yes, ↓Asks.no, tyL, encL, leL, leD, ne_eq])
 intro i hi hI
 repeat (first | refine aq ?_ | refine ap (by rfl : apartB 0 _ _ = true) ?_ | refine ak ?_ | refine ab ?_ | refine al ?_ | ((first | refine ar ?_ | refine ad ty_mix (by kernel_rfl) ?_ | refine ac ?_ | refine ae ?_ | with_reducible refine Later.mk ?_); simp only [evD, evL, iteL, aX, St.said, St.asked, evStep, evOp, evP, St.init, St.app, srcStep, kill, setMany, loadS, fieldS, buildS, toks, Fin, upd_app, Array.isEmpty, reduceLT, reduceAdd, reduceMul, reduceLeDiff, reduceSub, reduceEqDiff, reduceCtorEq, reduceIte, ↓Opt.is, ↓Opt.no, ↓Asks.yes, ↓Asks.no, tyL, encL, mkS, updl, asB]))
 refine ⟨fun h => ?_, fun h => ?_⟩
 · have h : i < m.length := by simpa using h
   have hw := wrapN h (by omega)
   have hc := l7Has_a (x := m[i]) gl
   have hs : ((m.take (i + 1)).all fun x => l.contains x) = l.contains m[i] := by
     rw [List.take_succ_eq_append_getElem h, List.all_append, hI]
     simp
   rcases Bool.eq_false_or_eq_true (l.contains m[i]) with hd | hd <;> rw [hd] at hc hs
   · repeat (first | refine aq ?_ | refine ap (by rfl : apartB 0 _ _ = true) ?_ | refine ak ?_ | refine ab ?_ | refine al ?_ | ((first | refine ar ?_ | refine ad ty_mix (by kernel_rfl) ?_ | refine ac ?_ | refine ae ?_ | with_reducible refine Later.mk ?_); simp only [evD, evL, iteL, aX, St.said, St.asked, evStep, evOp, evP, St.init, St.app, srcStep, kill, setMany, loadS, fieldS, buildS, toks, Fin, upd_app, Array.isEmpty, reduceLT, reduceAdd, reduceMul, reduceLeDiff, reduceSub, reduceEqDiff, reduceCtorEq, reduceIte, ↓Opt.is, ↓Opt.no, ↓Asks.yes, ↓Asks.no, tyL, encL, getI h, asB]))
     refine ⟨_, hc, ?_⟩; (repeat (first | refine ap (by rfl : apartB 0 _ _ = true) ?_ | refine ap (by simp [osL, D.flat]) ?_)); repeat (first | refine aq ?_ | refine ap (by rfl : apartB 0 _ _ = true) ?_ | refine ak ?_ | refine ab ?_ | refine al ?_ | ((first | refine ar ?_ | refine ad ty_mix (by kernel_rfl) ?_ | refine ac ?_ | refine ae ?_ | with_reducible refine Later.mk ?_); simp only [evD, evL, iteL, aX, St.said, St.asked, evStep, evOp, evP, St.init, St.app, srcStep, kill, setMany, loadS, fieldS, buildS, toks, Fin, upd_app, Array.isEmpty, reduceLT, reduceAdd, reduceMul, reduceLeDiff, reduceSub, reduceEqDiff, reduceCtorEq, reduceIte, ↓Opt.is, ↓Opt.no, ↓Asks.yes, ↓Asks.no, tyL, encL, hw, asB]))
     refine ⟨h, hs, ?_⟩
     ((first | refine Le.mk rfl ?_ ?_ | refine LeTo.mk rfl ?_ ?_) <;> simp only [evD, evL, iteL, aX, St.said, St.asked, evStep, evOp, evP, St.init, St.app, srcStep, kill, setMany, loadS, fieldS, buildS, toks, Fin, upd_app, Array.isEmpty, reduceLT, reduceAdd, reduceMul, reduceLeDiff, reduceSub, reduceEqDiff, reduceCtorEq, reduceIte, ↓Opt.is, ↓Opt.no, ↓Asks.yes, ↓Asks.no, tyL, encL, leL, leD, ne_eq])
   · have hr : (m.all fun x => l.contains x) = false := by
       rw [Bool.eq_false_iff]
       intro h2
       rw [List.all_eq_true] at h2
       rw [h2 _ (List.getElem_mem h)] at hd
       cases hd
     repeat (first | refine aq ?_ | refine ap (by rfl : apartB 0 _ _ = true) ?_ | refine ak ?_ | refine ab ?_ | refine al ?_ | ((first | refine ar ?_ | refine ad ty_mix (by kernel_rfl) ?_ | refine ac ?_ | refine ae ?_ | with_reducible refine Later.mk ?_); simp only [evD, evL, iteL, aX, St.said, St.asked, evStep, evOp, evP, St.init, St.app, srcStep, kill, setMany, loadS, fieldS, buildS, toks, Fin, upd_app, Array.isEmpty, reduceLT, reduceAdd, reduceMul, reduceLeDiff, reduceSub, reduceEqDiff, reduceCtorEq, reduceIte, ↓Opt.is, ↓Opt.no, ↓Asks.yes, ↓Asks.no, tyL, encL, getI h, asB]))
     refine ⟨_, hc, ?_⟩; (repeat (first | refine ap (by rfl : apartB 0 _ _ = true) ?_ | refine ap (by simp [osL, D.flat]) ?_)); repeat (first | refine aq ?_ | refine ap (by rfl : apartB 0 _ _ = true) ?_ | refine ak ?_ | refine ab ?_ | refine al ?_ | ((first | refine ar ?_ | refine ad ty_mix (by kernel_rfl) ?_ | refine ac ?_ | refine ae ?_ | with_reducible refine Later.mk ?_); simp only [evD, evL, iteL, aX, St.said, St.asked, evStep, evOp, evP, St.init, St.app, srcStep, kill, setMany, loadS, fieldS, buildS, toks, Fin, upd_app, Array.isEmpty, reduceLT, reduceAdd, reduceMul, reduceLeDiff, reduceSub, reduceEqDiff, reduceCtorEq, reduceIte, ↓Opt.is, ↓Opt.no, ↓Asks.yes, ↓Asks.no, tyL, encL, asB]))
     refine Ab.ret ?_; simp only [evD, evL, iteL, aX, St.said, St.asked, evStep, evOp, evP, St.init, St.app, srcStep, kill, setMany, loadS, fieldS, buildS, toks, Fin, upd_app, Array.isEmpty, reduceLT, reduceAdd, reduceMul, reduceLeDiff, reduceSub, reduceEqDiff, reduceCtorEq, reduceIte, ↓Opt.is, ↓Opt.no, ↓Asks.yes, ↓Asks.no, tyL, List.nodup_cons, encL, Tryd.f120, hr]
 · have h : i = m.length := by have := of_decide_eq_false h; omega
   subst h
   rw [List.take_length] at hI
   repeat (first | refine aq ?_ | refine ap (by rfl : apartB 0 _ _ = true) ?_ | refine ak ?_ | refine ab ?_ | refine al ?_ | ((first | refine ar ?_ | refine ad ty_mix (by kernel_rfl) ?_ | refine ac ?_ | refine ae ?_ | with_reducible refine Later.mk ?_); simp only [evD, evL, iteL, aX, St.said, St.asked, evStep, evOp, evP, St.init, St.app, srcStep, kill, setMany, loadS, fieldS, buildS, toks, Fin, upd_app, Array.isEmpty, reduceLT, reduceAdd, reduceMul, reduceLeDiff, reduceSub, reduceEqDiff, reduceCtorEq, reduceIte, ↓Opt.is, ↓Opt.no, ↓Asks.yes, ↓Asks.no, tyL, encL, asB]))
   refine Ab.ret ?_; simp only [evD, evL, iteL, aX, St.said, St.asked, evStep, evOp, evP, St.init, St.app, srcStep, kill, setMany, loadS, fieldS, buildS, toks, Fin, upd_app, Array.isEmpty, reduceLT, reduceAdd, reduceMul, reduceLeDiff, reduceSub, reduceEqDiff, reduceCtorEq, reduceIte, ↓Opt.is, ↓Opt.no, ↓Asks.yes, ↓Asks.no, tyL, List.nodup_cons, encL, Tryd.f120, hI]
theorem cAll_a {l m : List Int} (gl : (eSlice eInt).good l) (hm : m.length ≤ 1048576) : AC Tryd.prog 147 [.d (encIs l), .d (encIs m)] (.d (.v (.bool (m.all fun x => l.contains x)))) := by
 refine AC.intro Tryd.func147 rfl (by decide) (by simp [S.res, S.ress]) (by simp [S.os, S.oss]) (by simp [S.wfs, S.wf, dbS]) (by simp [Tryd.f147]) ?_; rw [Tryd.ntmps147]
 repeat (first | refine aq ?_ | refine ap (by rfl : apartB 0 _ _ = true) ?_ | refine ak ?_ | refine ab ?_ | refine al ?_ | ((first | refine ar ?_ | refine ad ty_mix (by kernel_rfl) ?_ | refine ac ?_ | refine ae ?_ | with_reducible refine Later.mk ?_); simp only [evD, evL, iteL, aX, St.said, St.asked, evStep, evOp, evP, St.init, St.app, srcStep, kill, setMany, loadS, fieldS, buildS, toks, Fin, upd_app, Array.isEmpty, reduceLT, reduceAdd, reduceMul, reduceLeDiff, reduceSub, reduceEqDiff, reduceCtorEq, reduceIte, ↓Opt.is, ↓Opt.no, ↓Asks.yes, ↓Asks.no, tyL, encL, asB]))
 refine Ab.loopI m.length (fun i => ((m.take i).all fun x => l.contains x) = true) (fun i => mkS 18 [(0, .d (.sl (List.map encI l))), (7, .d (.sl (List.map encI m))), (8, .d (.v (.int .i64 (m.length : Int)))), (9, .d (.v (.int .i64 (i : Int))))] [] 100) rfl ?_ ?_
 · ((first | refine Le.mk rfl ?_ ?_ | refine LeTo.mk rfl ?_ ?_) <;> simp only [evD, evL, iteL, aX, St.said, St.asked, evStep, evOp, evP, St.init, St.app, srcStep, kill, setMany, loadS, fieldS, buildS, toks, Fin, upd_app, Array.isEmpty, reduceLT, reduceAdd, reduceMul, reduceLeDiff, reduceSub, reduceEqDiff, reduceCtorEq, reduceIte, ↓Opt.is, ↓Opt.no, ↓Asks.yes, ↓Asks.no, tyL, encL, leL, leD, ne_eq])
 intro i hi hI
 repeat (first | refine aq ?_ | refine ap (by rfl : apartB 0 _ _ = true) ?_ | refine ak ?_ | refine ab ?_ | refine al ?_ | ((first | refine ar ?_ | refine ad ty_mix (by kernel_rfl) ?_ | refine ac ?_ | refine ae ?_ | with_reducible refine Later.mk ?_); simp only [evD, evL, iteL, aX, St.said, St.asked, evStep, evOp, evP, St.init, St.app, srcStep, kill, setMany, loadS, fieldS, buildS, toks, Fin, upd_app, Array.isEmpty, reduceLT, reduceAdd, reduceMul, reduceLeDiff, reduceSub, reduceEqDiff, reduceCtorEq, reduceIte, ↓Opt.is, ↓Opt.no, ↓Asks.yes, ↓Asks.no, tyL, encL, mkS, updl, asB]))
 refine ⟨fun h => ?_, fun h => ?_⟩
 · have h : i < m.length := by simpa using h
   have hw := wrapN h (by omega)
   have hc := containsI_a (x := m[i]) gl
   have hs : ((m.take (i + 1)).all fun x => l.contains x) = l.contains m[i] := by
     rw [List.take_succ_eq_append_getElem h, List.all_append, hI]
     simp
   rcases Bool.eq_false_or_eq_true (l.contains m[i]) with hd | hd <;> rw [hd] at hc hs
   · repeat (first | refine aq ?_ | refine ap (by rfl : apartB 0 _ _ = true) ?_ | refine ak ?_ | refine ab ?_ | refine al ?_ | ((first | refine ar ?_ | refine ad ty_mix (by kernel_rfl) ?_ | refine ac ?_ | refine ae ?_ | with_reducible refine Later.mk ?_); simp only [evD, evL, iteL, aX, St.said, St.asked, evStep, evOp, evP, St.init, St.app, srcStep, kill, setMany, loadS, fieldS, buildS, toks, Fin, upd_app, Array.isEmpty, reduceLT, reduceAdd, reduceMul, reduceLeDiff, reduceSub, reduceEqDiff, reduceCtorEq, reduceIte, ↓Opt.is, ↓Opt.no, ↓Asks.yes, ↓Asks.no, tyL, encL, getI h, asB]))
     refine ⟨_, hc, ?_⟩; (repeat (first | refine ap (by rfl : apartB 0 _ _ = true) ?_ | refine ap (by simp [osL, D.flat]) ?_)); repeat (first | refine aq ?_ | refine ap (by rfl : apartB 0 _ _ = true) ?_ | refine ak ?_ | refine ab ?_ | refine al ?_ | ((first | refine ar ?_ | refine ad ty_mix (by kernel_rfl) ?_ | refine ac ?_ | refine ae ?_ | with_reducible refine Later.mk ?_); simp only [evD, evL, iteL, aX, St.said, St.asked, evStep, evOp, evP, St.init, St.app, srcStep, kill, setMany, loadS, fieldS, buildS, toks, Fin, upd_app, Array.isEmpty, reduceLT, reduceAdd, reduceMul, reduceLeDiff, reduceSub, reduceEqDiff, reduceCtorEq, reduceIte, ↓Opt.is, ↓Opt.no, ↓Asks.yes, ↓Asks.no, tyL, encL, hw, asB]))
     refine ⟨h, hs, ?_⟩
     ((first | refine Le.mk rfl ?_ ?_ | refine LeTo.mk rfl ?_ ?_) <;> simp only [evD, evL, iteL, aX, St.said, St.asked, evStep, evOp, evP, St.init, St.app, srcStep, kill, setMany, loadS, fieldS, buildS, toks, Fin, upd_app, Array.isEmpty, reduceLT, reduceAdd, reduceMul, reduceLeDiff, reduceSub, reduceEqDiff, reduceCtorEq, reduceIte, ↓Opt.is, ↓Opt.no, ↓Asks.yes, ↓Asks.no, tyL, encL, leL, leD, ne_eq])
   · have hr : (m.all fun x => l.contains x) = false := by
       rw [Bool.eq_false_iff]
       intro h2
       rw [List.all_eq_true] at h2
       rw [h2 _ (List.getElem_mem h)] at hd
       cases hd
     repeat (first | refine aq ?_ | refine ap (by rfl : apartB 0 _ _ = true) ?_ | refine ak ?_ | refine ab ?_ | refine al ?_ | ((first | refine ar ?_ | refine ad ty_mix (by kernel_rfl) ?_ | refine ac ?_ | refine ae ?_ | with_reducible refine Later.mk ?_); simp only [evD, evL, iteL, aX, St.said, St.asked, evStep, evOp, evP, St.init, St.app, srcStep, kill, setMany, loadS, fieldS, buildS, toks, Fin, upd_app, Array.isEmpty, reduceLT, reduceAdd, reduceMul, reduceLeDiff, reduceSub, reduceEqDiff, reduceCtorEq, reduceIte, ↓Opt.is, ↓Opt.no, ↓Asks.yes, ↓Asks.no, tyL, encL, getI h, asB]))
     refine ⟨_, hc, ?_⟩; (repeat (first | refine ap (by rfl : apartB 0 _ _ = true) ?_ | refine ap (by simp [osL, D.flat]) ?_)); repeat (first | refine aq ?_ | refine ap (by rfl : apartB 0 _ _ = true) ?_ | refine ak ?_ | refine ab ?_ | refine al ?_ | ((first | refine ar ?_ | refine ad ty_mix (by kernel_rfl) ?_ | refine ac ?_ | refine ae ?_ | with_reducible refine Later.mk ?_); simp only [evD, evL, iteL, aX, St.said, St.asked, evStep, evOp, evP, St.init, St.app, srcStep, kill, setMany, loadS, fieldS, buildS, toks, Fin, upd_app, Array.isEmpty, reduceLT, reduceAdd, reduceMul, reduceLeDiff, reduceSub, reduceEqDiff, reduceCtorEq, reduceIte, ↓Opt.is, ↓Opt.no, ↓Asks.yes, ↓Asks.no, tyL, encL, asB]))
     refine Ab.ret ?_; simp only [evD, evL, iteL, aX, St.said, St.asked, evStep, evOp, evP, St.init, St.app, srcStep, kill, setMany, loadS, fieldS, buildS, toks, Fin, upd_app, Array.isEmpty, reduceLT, reduceAdd, reduceMul, reduceLeDiff, reduceSub, reduceEqDiff, reduceCtorEq, reduceIte, ↓Opt.is, ↓Opt.no, ↓Asks.yes, ↓Asks.no, tyL, List.nodup_cons, encL, Tryd.f147, hr]
 · have h : i = m.length := by have := of_decide_eq_false h; omega
   subst h
   rw [List.take_length] at hI
   repeat (first | refine aq ?_ | refine ap (by rfl : apartB 0 _ _ = true) ?_ | refine ak ?_ | refine ab ?_ | refine al ?_ | ((first | refine ar ?_ | refine ad ty_mix (by kernel_rfl) ?_ | refine ac ?_ | refine ae ?_ | with_reducible refine Later.mk ?_); simp only [evD, evL, iteL, aX, St.said, St.asked, evStep, evOp, evP, St.init, St.app, srcStep, kill, setMany, loadS, fieldS, buildS, toks, Fin, upd_app, Array.isEmpty, reduceLT, reduceAdd, reduceMul, reduceLeDiff, reduceSub, reduceEqDiff, reduceCtorEq, reduceIte, ↓Opt.is, ↓Opt.no, ↓Asks.yes, ↓Asks.no, tyL, encL, asB]))
   refine Ab.ret ?_; simp only [evD, evL, iteL, aX, St.said, St.asked, evStep, evOp, evP, St.init, St.app, srcStep, kill, setMany, loadS, fieldS, buildS, toks, Fin, upd_app, Array.isEmpty, reduceLT, reduceAdd, reduceMul, reduceLeDiff, reduceSub, reduceEqDiff, reduceCtorEq, reduceIte, ↓Opt.is, ↓Opt.no, ↓Asks.yes, ↓Asks.no, tyL, List.nodup_cons, encL, Tryd.f147, hI]
theorem implAreValidRelations_a {l : List Rel} (gl : (eSlice eRel).good l) : AC Tryd.prog 97 [.d (encRs l)] (.d (.v (.bool (validRels l)))) :=
 AC.plain Tryd.func97 rfl (by decide) rfl (fun w K cs ov hK hr => by
   simp only [RdSs] at hr
   obtain ⟨v0, _, rfl, q0, rfl⟩ := hr
   obtain ⟨u0_0, u0_1, rfl, h0⟩ := rels_cutQ gl hK q0
   exact implAreValidRelations_c h0)
theorem specAreValidRelations_a {l : List Rel} (gl : (eSlice eRel).good l) : AC Tryd.prog 94 [.d (encRs l)] (.d (.v (.bool (validRels l)))) :=
 AC.plain Tryd.func94 rfl (by decide) rfl (fun w K cs ov hK hr => by
   simp only [RdSs] at hr
   obtain ⟨v0, _, rfl, q0, rfl⟩ := hr
   obtain ⟨u0_0, u0_1, rfl, h0⟩ := rels_cutQ gl hK q0
   exact specAreValidRelations_c h0)
theorem isAtomOf_a {l : List Rel} (gl : (eSlice eRel).good l) {x : Atm} (gx : eAtm.good x) {v : Int} (hv : 0 ≤ v) : AC Tryd.prog 98 [.d (encRs l), .d (.v (.int .i64 v)), atmS x] (.d (.v (.bool (atomOk l v x)))) :=
 AC.plain Tryd.func98 rfl (by decide) rfl (fun w K cs ov hK hr => by
   simp only [RdSs] at hr
   obtain ⟨v0, _, rfl, q0, v2, _, rfl, q2, v1, _, rfl, q1, rfl⟩ := hr
   obtain ⟨u0_0, u0_1, rfl, h0⟩ := rels_cutQ gl hK q0
   obtain rfl := q2.int
   obtain ⟨u1_0, u1_1, rfl, h1⟩ := atm_cut gx hK q1
   exact isAtomOf_c hv h0 h1)
theorem varsL_good (l : List Int) : (eSlice eInt).good (varsL l) := by
 have h1 := vPart_len l 4
 refine ⟨by simp only [maxLen]; unfold varsL; omega, fun x hx => ?_⟩
 unfold varsL vPart at hx
 obtain ⟨v, hv, rfl⟩ := List.mem_map.1 hx
 have := List.mem_range.1 (List.mem_filter.1 hv).1
 show inR _
 unfold inR
 omega
theorem keyVarsL_good (l : List Rel) (x : Atm) : (eSlice eInt).good (keyVarsL l x) := by
 unfold keyVarsL
 split
 · exact varsL_good _
 · exact ⟨Nat.zero_le _, fun x hx => by cases hx⟩
def stOk (l : List Rel) (x : Rst) : Bool := validRels l && (atomOk l 4 x.atom && ((x.ex.all fun y => (keyVarsL l x.atom).contains y) && (x.un.all fun y => (varsL x.atom.terms).contains y)))
def rwV (l : List Rel) (f : List Rst) : Bool := f.all (stOk l) && decide (f.length ≤ 3)
theorem isValidStep_a {l : List Rel} (gl : (eSlice eRel).good l) {x : Rst} (gx : eRst.good x) (h1 : x.ex.length ≤ 1048576) (h2 : x.un.length ≤ 1048576) : AC Tryd.prog 123 [.d (encRs l), rstS x] (.d (.v (.bool (stOk l x)))) := by
 have ha : eAtm.good x.atom := gx.1
 have hc1 := implAreValidRelations_a gl
 have hc2 := isAtomOf_a gl ha (v := 4) (by omega)
 have hc3 := implKeyVariables_a gl ha
 have hc4 := cAll_a (l := keyVarsL l x.atom) (m := x.ex) (keyVarsL_good l x.atom) h1
 have hc5 := implAtomVariables_a ha
 have hc6 := cAll_a (l := varsL x.atom.terms) (m := x.un) (varsL_good _) h2
 unfold stOk rstS
 unfold atmS at *
 generalize keyVarsL l x.atom = KV at *
 generalize varsL x.atom.terms = AV at *
 generalize (x.ex.all fun y => KV.contains y) = b3 at *
 generalize (x.un.all fun y => AV.contains y) = b4 at *
 rcases Bool.eq_false_or_eq_true (validRels l) with c1 | c1 <;> rw [c1] at hc1 ⊢
 · rcases Bool.eq_false_or_eq_true (atomOk l 4 x.atom) with c2 | c2 <;> rw [c2] at hc2 ⊢
   · cases b3
     · refine AC.intro Tryd.func123 rfl (by decide) (by simp [S.res, S.ress]) (by simp [S.os, S.oss]) (by simp [S.wfs, S.wf, dbS]) (by simp [Tryd.f123]) ?_; rw [Tryd.ntmps123]
       repeat (first | refine aq ?_ | refine ap (by rfl : apartB 0 _ _ = true) ?_ | refine ak ?_ | refine ab ?_ | refine al ?_ | ((first | refine ar ?_ | refine ad ty_mix (by kernel_rfl) ?_ | refine ac ?_ | refine ae ?_ | with_reducible refine Later.mk ?_); simp only [evD, evL, iteL, aX, St.said, St.asked, evStep, evOp, evP, St.init, St.app, srcStep, kill, setMany, loadS, fieldS, buildS, toks, Fin, upd_app, Array.isEmpty, reduceLT, reduceAdd, reduceMul, reduceLeDiff, reduceSub, reduceEqDiff, reduceCtorEq, reduceIte, ↓Opt.is, ↓Opt.no, ↓Asks.yes, ↓Asks.no, tyL, encL, asB]))
       refine ⟨_, hc1, ?_⟩; (repeat (first | refine ap (by rfl : apartB 0 _ _ = true) ?_ | refine ap (by simp [osL, D.flat]) ?_)); repeat (first | refine aq ?_ | refine ap (by rfl : apartB 0 _ _ = true) ?_ | refine ak ?_ | refine ab ?_ | refine al ?_ | ((first | refine ar ?_ | refine ad ty_mix (by kernel_rfl) ?_ | refine ac ?_ | refine ae ?_ | with_reducible refine Later.mk ?_); simp only [evD, evL, iteL, aX, St.said, St.asked, evStep, evOp, evP, St.init, St.app, srcStep, kill, setMany, loadS, fieldS, buildS, toks, Fin, upd_app, Array.isEmpty, reduceLT, reduceAdd, reduceMul, reduceLeDiff, reduceSub, reduceEqDiff, reduceCtorEq, reduceIte, ↓Opt.is, ↓Opt.no, ↓Asks.yes, ↓Asks.no, tyL, encL, asB]))
       refine ⟨_, hc2, ?_⟩; (repeat (first | refine ap (by rfl : apartB 0 _ _ = true) ?_ | refine ap (by simp [osL, D.flat]) ?_)); repeat (first | refine aq ?_ | refine ap (by rfl : apartB 0 _ _ = true) ?_ | refine ak ?_ | refine ab ?_ | refine al ?_ | ((first | refine ar ?_ | refine ad ty_mix (by kernel_rfl) ?_ | refine ac ?_ | refine ae ?_ | with_reducible refine Later.mk ?_); simp only [evD, evL, iteL, aX, St.said, St.asked, evStep, evOp, evP, St.init, St.app, srcStep, kill, setMany, loadS, fieldS, buildS, toks, Fin, upd_app, Array.isEmpty, reduceLT, reduceAdd, reduceMul, reduceLeDiff, reduceSub, reduceEqDiff, reduceCtorEq, reduceIte, ↓Opt.is, ↓Opt.no, ↓Asks.yes, ↓Asks.no, tyL, encL, asB]))
       refine ⟨_, hc3, ?_⟩; (repeat (first | refine ap (by rfl : apartB 0 _ _ = true) ?_ | refine ap (by simp [osL, D.flat]) ?_)); repeat (first | refine aq ?_ | refine ap (by rfl : apartB 0 _ _ = true) ?_ | refine ak ?_ | refine ab ?_ | refine al ?_ | ((first | refine ar ?_ | refine ad ty_mix (by kernel_rfl) ?_ | refine ac ?_ | refine ae ?_ | with_reducible refine Later.mk ?_); simp only [evD, evL, iteL, aX, St.said, St.asked, evStep, evOp, evP, St.init, St.app, srcStep, kill, setMany, loadS, fieldS, buildS, toks, Fin, upd_app, Array.isEmpty, reduceLT, reduceAdd, reduceMul, reduceLeDiff, reduceSub, reduceEqDiff, reduceCtorEq, reduceIte, ↓Opt.is, ↓Opt.no, ↓Asks.yes, ↓Asks.no, tyL, encL, asB]))
       refine ⟨_, hc4, ?_⟩; (repeat (first | refine ap (by rfl : apartB 0 _ _ = true) ?_ | refine ap (by simp [osL, D.flat]) ?_)); repeat (first | refine aq ?_ | refine ap (by rfl : apartB 0 _ _ = true) ?_ | refine ak ?_ | refine ab ?_ | refine al ?_ | ((first | refine ar ?_ | refine ad ty_mix (by kernel_rfl) ?_ | refine ac ?_ | refine ae ?_ | with_reducible refine Later.mk ?_); simp only [evD, evL, iteL, aX, St.said, St.asked, evStep, evOp, evP, St.init, St.app, srcStep, kill, setMany, loadS, fieldS, buildS, toks, Fin, upd_app, Array.isEmpty, reduceLT, reduceAdd, reduceMul, reduceLeDiff, reduceSub, reduceEqDiff, reduceCtorEq, reduceIte, ↓Opt.is, ↓Opt.no, ↓Asks.yes, ↓Asks.no, tyL, encL, asB]))
       refine Ab.ret ?_; simp only [evD, evL, iteL, aX, St.said, St.asked, evStep, evOp, evP, St.init, St.app, srcStep, kill, setMany, loadS, fieldS, buildS, toks, Fin, upd_app, Array.isEmpty, reduceLT, reduceAdd, reduceMul, reduceLeDiff, reduceSub, reduceEqDiff, reduceCtorEq, reduceIte, ↓Opt.is, ↓Opt.no, ↓Asks.yes, ↓Asks.no, tyL, List.nodup_cons, encL, Tryd.f123]
     · refine AC.intro Tryd.func123 rfl (by decide) (by simp [S.res, S.ress]) (by simp [S.os, S.oss]) (by simp [S.wfs, S.wf, dbS]) (by simp [Tryd.f123]) ?_; rw [Tryd.ntmps123]
       repeat (first | refine aq ?_ | refine ap (by rfl : apartB 0 _ _ = true) ?_ | refine ak ?_ | refine ab ?_ | refine al ?_ | ((first | refine ar ?_ | refine ad ty_mix (by kernel_rfl) ?_ | refine ac ?_ | refine ae ?_ | with_reducible refine Later.mk ?_); simp only [evD, evL, iteL, aX, St.said, St.asked, evStep, evOp, evP, St.init, St.app, srcStep, kill, setMany, loadS, fieldS, buildS, toks, Fin, upd_app, Array.isEmpty, reduceLT, reduceAdd, reduceMul, reduceLeDiff, reduceSub, reduceEqDiff, reduceCtorEq, reduceIte, ↓Opt.is, ↓Opt.no, ↓Asks.yes, ↓Asks.no, tyL, encL, asB]))
       refine ⟨_, hc1, ?_⟩; (repeat (first | refine ap (by rfl : apartB 0 _ _ = true) ?_ | refine ap (by simp [osL, D.flat]) ?_)); repeat (first | refine aq ?_ | refine ap (by rfl : apartB 0 _ _ = true) ?_ | refine ak ?_ | refine ab ?_ | refine al ?_ | ((first | refine ar ?_ | refine ad ty_mix (by kernel_rfl) ?_ | refine ac ?_ | refine ae ?_ | with_reducible refine Later.mk ?_); simp only [evD, evL, iteL, aX, St.said, St.asked, evStep, evOp, evP, St.init, St.app, srcStep, kill, setMany, loadS, fieldS, buildS, toks, Fin, upd_app, Array.isEmpty, reduceLT, reduceAdd, reduceMul, reduceLeDiff, reduceSub, reduceEqDiff, reduceCtorEq, reduceIte, ↓Opt.is, ↓Opt.no, ↓Asks.yes, ↓Asks.no, tyL, encL, asB]))
       refine ⟨_, hc2, ?_⟩; (repeat (first | refine ap (by rfl : apartB 0 _ _ = true) ?_ | refine ap (by simp [osL, D.flat]) ?_)); repeat (first | refine aq ?_ | refine ap (by rfl : apartB 0 _ _ = true) ?_ | refine ak ?_ | refine ab ?_ | refine al ?_ | ((first | refine ar ?_ | refine ad ty_mix (by kernel_rfl) ?_ | refine ac ?_ | refine ae ?_ | with_reducible refine Later.mk ?_); simp only [evD, evL, iteL, aX, St.said, St.asked, evStep, evOp, evP, St.init, St.app, srcStep, kill, setMany, loadS, fieldS, buildS, toks, Fin, upd_app, Array.isEmpty, reduceLT, reduceAdd, reduceMul, reduceLeDiff, reduceSub, reduceEqDiff, reduceCtorEq, reduceIte, ↓Opt.is, ↓Opt.no, ↓Asks.yes, ↓Asks.no, tyL, encL, asB]))
       refine ⟨_, hc3, ?_⟩; (repeat (first | refine ap (by rfl : apartB 0 _ _ = true) ?_ | refine ap (by simp [osL, D.flat]) ?_)); repeat (first | refine aq ?_ | refine ap (by rfl : apartB 0 _ _ = true) ?_ | refine ak ?_ | refine ab ?_ | refine al ?_ | ((first | refine ar ?_ | refine ad ty_mix (by kernel_rfl) ?_ | refine ac ?_ | refine ae ?_ | with_reducible refine Later.mk ?_); simp only [evD, evL, iteL, aX, St.said, St.asked, evStep, evOp, evP, St.init, St.app, srcStep, kill, setMany, loadS, fieldS, buildS, toks, Fin, upd_app, Array.isEmpty, reduceLT, reduceAdd, reduceMul, reduceLeDiff, reduceSub, reduceEqDiff, reduceCtorEq, reduceIte, ↓Opt.is, ↓Opt.no, ↓Asks.yes, ↓Asks.no, tyL, encL, asB]))
       refine ⟨_, hc4, ?_⟩; (repeat (first | refine ap (by rfl : apartB 0 _ _ = true) ?_ | refine ap (by simp [osL, D.flat]) ?_)); repeat (first | refine aq ?_ | refine ap (by rfl : apartB 0 _ _ = true) ?_ | refine ak ?_ | refine ab ?_ | refine al ?_ | ((first | refine ar ?_ | refine ad ty_mix (by kernel_rfl) ?_ | refine ac ?_ | refine ae ?_ | with_reducible refine Later.mk ?_); simp only [evD, evL, iteL, aX, St.said, St.asked, evStep, evOp, evP, St.init, St.app, srcStep, kill, setMany, loadS, fieldS, buildS, toks, Fin, upd_app, Array.isEmpty, reduceLT, reduceAdd, reduceMul, reduceLeDiff, reduceSub, reduceEqDiff, reduceCtorEq, reduceIte, ↓Opt.is, ↓Opt.no, ↓Asks.yes, ↓Asks.no, tyL, encL, asB]))
       refine ⟨_, hc5, ?_⟩; (repeat (first | refine ap (by rfl : apartB 0 _ _ = true) ?_ | refine ap (by simp [osL, D.flat]) ?_)); repeat (first | refine aq ?_ | refine ap (by rfl : apartB 0 _ _ = true) ?_ | refine ak ?_ | refine ab ?_ | refine al ?_ | ((first | refine ar ?_ | refine ad ty_mix (by kernel_rfl) ?_ | refine ac ?_ | refine ae ?_ | with_reducible refine Later.mk ?_); simp only [evD, evL, iteL, aX, St.said, St.asked, evStep, evOp, evP, St.init, St.app, srcStep, kill, setMany, loadS, fieldS, buildS, toks, Fin, upd_app, Array.isEmpty, reduceLT, reduceAdd, reduceMul, reduceLeDiff, reduceSub, reduceEqDiff, reduceCtorEq, reduceIte, ↓Opt.is, ↓Opt.no, ↓Asks.yes, ↓Asks.no, tyL, encL, asB]))
       refine ⟨_, hc6, ?_⟩; (repeat (first | refine ap (by rfl : apartB 0 _ _ = true) ?_ | refine ap (by simp [osL, D.flat]) ?_)); repeat (first | refine aq ?_ | refine ap (by rfl : apartB 0 _ _ = true) ?_ | refine ak ?_ | refine ab ?_ | refine al ?_ | ((first | refine ar ?_ | refine ad ty_mix (by kernel_rfl) ?_ | refine ac ?_ | refine ae ?_ | with_reducible refine Later.mk ?_); simp only [evD, evL, iteL, aX, St.said, St.asked, evStep, evOp, evP, St.init, St.app, srcStep, kill, setMany, loadS, fieldS, buildS, toks, Fin, upd_app, Array.isEmpty, reduceLT, reduceAdd, reduceMul, reduceLeDiff, reduceSub, reduceEqDiff, reduceCtorEq, reduceIte, ↓Opt.is, ↓Opt.no, ↓Asks.yes, ↓Asks.no, tyL, encL, asB]))
       refine Ab.ret ?_; simp only [evD, evL, iteL, aX, St.said, St.asked, evStep, evOp, evP, St.init, St.app, srcStep, kill, setMany, loadS, fieldS, buildS, toks, Fin, upd_app, Array.isEmpty, reduceLT, reduceAdd, reduceMul, reduceLeDiff, reduceSub, reduceEqDiff, reduceCtorEq, reduceIte, ↓Opt.is, ↓Opt.no, ↓Asks.yes, ↓Asks.no, tyL, List.nodup_cons, encL, Tryd.f123, Bool.true_and]
   · refine AC.intro Tryd.func123 rfl (by decide) (by simp [S.res, S.ress]) (by simp [S.os, S.oss]) (by simp [S.wfs, S.wf, dbS]) (by simp [Tryd.f123]) ?_; rw [Tryd.ntmps123]
     repeat (first | refine aq ?_ | refine ap (by rfl : apartB 0 _ _ = true) ?_ | refine ak ?_ | refine ab ?_ | refine al ?_ | ((first | refine ar ?_ | refine ad ty_mix (by kernel_rfl) ?_ | refine ac ?_ | refine ae ?_ | with_reducible refine Later.mk ?_); simp only [evD, evL, iteL, aX, St.said, St.asked, evStep, evOp, evP, St.init, St.app, srcStep, kill, setMany, loadS, fieldS, buildS, toks, Fin, upd_app, Array.isEmpty, reduceLT, reduceAdd, reduceMul, reduceLeDiff, reduceSub, reduceEqDiff, reduceCtorEq, reduceIte, ↓Opt.is, ↓Opt.no, ↓Asks.yes, ↓Asks.no, tyL, encL, asB]))
     refine ⟨_, hc1, ?_⟩; (repeat (first | refine ap (by rfl : apartB 0 _ _ = true) ?_ | refine ap (by simp [osL, D.flat]) ?_)); repeat (first | refine aq ?_ | refine ap (by rfl : apartB 0 _ _ = true) ?_ | refine ak ?_ | refine ab ?_ | refine al ?_ | ((first | refine ar ?_ | refine ad ty_mix (by kernel_rfl) ?_ | refine ac ?_ | refine ae ?_ | with_reducible refine Later.mk ?_); simp only [evD, evL, iteL, aX, St.said, St.asked, evStep, evOp, evP, St.init, St.app, srcStep, kill, setMany, loadS, fieldS, buildS, toks, Fin, upd_app, Array.isEmpty, reduceLT, reduceAdd, reduceMul, reduceLeDiff, reduceSub, reduceEqDiff, reduceCtorEq, reduceIte, ↓Opt.is, ↓Opt.no, ↓Asks.yes, ↓Asks.no, tyL, encL, asB]))
     refine ⟨_, hc2, ?_⟩; (repeat (first | refine ap (by rfl : apartB 0 _ _ = true) ?_ | refine ap (by simp [osL, D.flat]) ?_)); repeat (first | refine aq ?_ | refine ap (by rfl : apartB 0 _ _ = true) ?_ | refine ak ?_ | refine ab ?_ | refine al ?_ | ((first | refine ar ?_ | refine ad ty_mix (by kernel_rfl) ?_ | refine ac ?_ | refine ae ?_ | with_reducible refine Later.mk ?_); simp only [evD, evL, iteL, aX, St.said, St.asked, evStep, evOp, evP, St.init, St.app, srcStep, kill, setMany, loadS, fieldS, buildS, toks, Fin, upd_app, Array.isEmpty, reduceLT, reduceAdd, reduceMul, reduceLeDiff, reduceSub, reduceEqDiff, reduceCtorEq, reduceIte, ↓Opt.is, ↓Opt.no, ↓Asks.yes, ↓Asks.no, tyL, encL, asB]))
     refine Ab.ret ?_; simp only [evD, evL, iteL, aX, St.said, St.asked, evStep, evOp, evP, St.init, St.app, srcStep, kill, setMany, loadS, fieldS, buildS, toks, Fin, upd_app, Array.isEmpty, reduceLT, reduceAdd, reduceMul, reduceLeDiff, reduceSub, reduceEqDiff, reduceCtorEq, reduceIte, ↓Opt.is, ↓Opt.no, ↓Asks.yes, ↓Asks.no, tyL, List.nodup_cons, encL, Tryd.f123]
 · refine AC.intro Tryd.func123 rfl (by decide) (by simp [S.res, S.ress]) (by simp [S.os, S.oss]) (by simp [S.wfs, S.wf, dbS]) (by simp [Tryd.f123]) ?_; rw [Tryd.ntmps123]
   repeat (first | refine aq ?_ | refine ap (by rfl : apartB 0 _ _ = true) ?_ | refine ak ?_ | refine ab ?_ | refine al ?_ | ((first | refine ar ?_ | refine ad ty_mix (by kernel_rfl) ?_ | refine ac ?_ | refine ae ?_ | with_reducible refine Later.mk ?_); simp only [evD, evL, iteL, aX, St.said, St.asked, evStep, evOp, evP, St.init, St.app, srcStep, kill, setMany, loadS, fieldS, buildS, toks, Fin, upd_app, Array.isEmpty, reduceLT, reduceAdd, reduceMul, reduceLeDiff, reduceSub, reduceEqDiff, reduceCtorEq, reduceIte, ↓Opt.is, ↓Opt.no, ↓Asks.yes, ↓Asks.no, tyL, encL, asB]))
   refine ⟨_, hc1, ?_⟩; (repeat (first | refine ap (by rfl : apartB 0 _ _ = true) ?_ | refine ap (by simp [osL, D.flat]) ?_)); repeat (first | refine aq ?_ | refine ap (by rfl : apartB 0 _ _ = true) ?_ | refine ak ?_ | refine ab ?_ | refine al ?_ | ((first | refine ar ?_ | refine ad ty_mix (by kernel_rfl) ?_ | refine ac ?_ | refine ae ?_ | with_reducible refine Later.mk ?_); simp only [evD, evL, iteL, aX, St.said, St.asked, evStep, evOp, evP, St.init, St.app, srcStep, kill, setMany, loadS, fieldS, buildS, toks, Fin, upd_app, Array.isEmpty, reduceLT, reduceAdd, reduceMul, reduceLeDiff, reduceSub, reduceEqDiff, reduceCtorEq, reduceIte, ↓Opt.is, ↓Opt.no, ↓Asks.yes, ↓Asks.no, tyL, encL, asB]))
   refine Ab.ret ?_; simp only [evD, evL, iteL, aX, St.said, St.asked, evStep, evOp, evP, St.init, St.app, srcStep, kill, setMany, loadS, fieldS, buildS, toks, Fin, upd_app, Array.isEmpty, reduceLT, reduceAdd, reduceMul, reduceLeDiff, reduceSub, reduceEqDiff, reduceCtorEq, reduceIte, ↓Opt.is, ↓Opt.no, ↓Asks.yes, ↓Asks.no, tyL, List.nodup_cons, encL, Tryd.f123]
theorem all_step {α : Type} {p : α → Bool} {f : List α} {i : Nat} (h : i < f.length) (hI : (f.take i).all p = true) (hp : p f[i] = true) : (f.take (i + 1)).all p = true := by
 rw [List.take_succ_eq_append_getElem h, List.all_append, hI]
 simp [hp]
theorem all_no {α : Type} {p : α → Bool} {f : List α} {i : Nat} (h : i < f.length) (hp : p f[i] = false) : f.all p = false := by
 rw [Bool.eq_false_iff]
 intro h2
 rw [List.all_eq_true] at h2
 rw [h2 _ (List.getElem_mem h)] at hp
 cases hp
theorem implIsValidRewriting_a {l : List Rel} (gl : (eSlice eRel).good l) {f : List Rst} (gf : (eSlice eRst).good f) (hf : f.length ≤ 1048576) (h1 : ∀ x, x ∈ f → x.ex.length ≤ 1048576 ∧ x.un.length ≤ 1048576) : AC Tryd.prog 89 [.d (encRs l), .d (encSts f)] (.d (.v (.bool (rwV l f)))) := by
 unfold rwV encSts
 by_cases hl : f.length ≤ 3
 · rw [decide_eq_true hl, Bool.and_true]
   have hg : ((f.length : Int) > 3) = False := eq_false (by omega)
   refine AC.intro Tryd.func89 rfl (by decide) (by simp [S.res, S.ress]) (by simp [S.os, S.oss]) (by simp [S.wfs, S.wf, dbS]) (by simp [Tryd.f89]) ?_; rw [Tryd.ntmps89]
   repeat (first | refine aq ?_ | refine ap (by rfl : apartB 0 _ _ = true) ?_ | refine ak ?_ | refine ab ?_ | refine al ?_ | ((first | refine ar ?_ | refine ad ty_mix (by kernel_rfl) ?_ | refine ac ?_ | refine ae ?_ | with_reducible refine Later.mk ?_); simp only [evD, evL, iteL, aX, St.said, St.asked, evStep, evOp, evP, St.init, St.app, srcStep, kill, setMany, loadS, fieldS, buildS, toks, Fin, upd_app, Array.isEmpty, reduceLT, reduceAdd, reduceMul, reduceLeDiff, reduceSub, reduceEqDiff, reduceCtorEq, reduceIte, ↓Opt.is, ↓Opt.no, ↓Asks.yes, ↓Asks.no, tyL, encL, hg, asB]))
   refine Ab.loopI f.length (fun i => ((f.take i).all (stOk l)) = true) (fun i => mkS 21 [(0, .d (.sl (List.map encR l))), (10, .d (.sl (List.map encSt f))), (11, .d (.v (.int .i64 (f.length : Int)))), (12, .d (.v (.int .i64 (i : Int))))] [] 160) rfl ?_ ?_
   · ((first | refine Le.mk rfl ?_ ?_ | refine LeTo.mk rfl ?_ ?_) <;> simp only [evD, evL, iteL, aX, St.said, St.asked, evStep, evOp, evP, St.init, St.app, srcStep, kill, setMany, loadS, fieldS, buildS, toks, Fin, upd_app, Array.isEmpty, reduceLT, reduceAdd, reduceMul, reduceLeDiff, reduceSub, reduceEqDiff, reduceCtorEq, reduceIte, ↓Opt.is, ↓Opt.no, ↓Asks.yes, ↓Asks.no, tyL, encL, leL, leD, ne_eq])
   intro i hi hI
   repeat (first | refine aq ?_ | refine ap (by rfl : apartB 0 _ _ = true) ?_ | refine ak ?_ | refine ab ?_ | refine al ?_ | ((first | refine ar ?_ | refine ad ty_mix (by kernel_rfl) ?_ | refine ac ?_ | refine ae ?_ | with_reducible refine Later.mk ?_); simp only [evD, evL, iteL, aX, St.said, St.asked, evStep, evOp, evP, St.init, St.app, srcStep, kill, setMany, loadS, fieldS, buildS, toks, Fin, upd_app, Array.isEmpty, reduceLT, reduceAdd, reduceMul, reduceLeDiff, reduceSub, reduceEqDiff, reduceCtorEq, reduceIte, ↓Opt.is, ↓Opt.no, ↓Asks.yes, ↓Asks.no, tyL, encL, mkS, updl, asB]))
   refine ⟨fun h => ?_, fun h => ?_⟩
   · have h : i < f.length := by simpa using h
     have hw := wrapN h (by omega)
     have z3 : ∀ x : Nat, (0 ≤ (x : Int)) = True := fun x => eq_true (by omega)
     have hst := isValidStep_a gl (gf.2 _ (List.getElem_mem h)) (h1 _ (List.getElem_mem h)).1 (h1 _ (List.getElem_mem h)).2
     have hgt := getSt h
     unfold rstS at hst
     rcases Bool.eq_false_or_eq_true (stOk l f[i]) with hd | hd <;> rw [hd] at hst
     · have hs := all_step h hI hd
       repeat (first | refine aq ?_ | refine ap (by rfl : apartB 0 _ _ = true) ?_ | refine ak ?_ | refine ab ?_ | refine al ?_ | ((first | refine ar ?_ | refine ad ty_mix (by kernel_rfl) ?_ | refine ac ?_ | refine ae ?_ | with_reducible refine Later.mk ?_); simp only [evD, evL, iteL, aX, St.said, St.asked, evStep, evOp, evP, St.init, St.app, srcStep, kill, setMany, loadS, fieldS, buildS, toks, Fin, upd_app, Array.isEmpty, reduceLT, reduceAdd, reduceMul, reduceLeDiff, reduceSub, reduceEqDiff, reduceCtorEq, reduceIte, ↓Opt.is, ↓Opt.no, ↓Asks.yes, ↓Asks.no, tyL, encL, hgt, z3, asB]))
       refine ⟨_, hst, ?_⟩; (repeat (first | refine ap (by rfl : apartB 0 _ _ = true) ?_ | refine ap (by simp [osL, D.flat]) ?_)); repeat (first | refine aq ?_ | refine ap (by rfl : apartB 0 _ _ = true) ?_ | refine ak ?_ | refine ab ?_ | refine al ?_ | ((first | refine ar ?_ | refine ad ty_mix (by kernel_rfl) ?_ | refine ac ?_ | refine ae ?_ | with_reducible refine Later.mk ?_); simp only [evD, evL, iteL, aX, St.said, St.asked, evStep, evOp, evP, St.init, St.app, srcStep, kill, setMany, loadS, fieldS, buildS, toks, Fin, upd_app, Array.isEmpty, reduceLT, reduceAdd, reduceMul, reduceLeDiff, reduceSub, reduceEqDiff, reduceCtorEq, reduceIte, ↓Opt.is, ↓Opt.no, ↓Asks.yes, ↓Asks.no, tyL, encL, hw, asB]))
       refine ⟨h, hs, ?_⟩
       ((first | refine Le.mk rfl ?_ ?_ | refine LeTo.mk rfl ?_ ?_) <;> simp only [evD, evL, iteL, aX, St.said, St.asked, evStep, evOp, evP, St.init, St.app, srcStep, kill, setMany, loadS, fieldS, buildS, toks, Fin, upd_app, Array.isEmpty, reduceLT, reduceAdd, reduceMul, reduceLeDiff, reduceSub, reduceEqDiff, reduceCtorEq, reduceIte, ↓Opt.is, ↓Opt.no, ↓Asks.yes, ↓Asks.no, tyL, encL, leL, leD, ne_eq])
     · have hr := all_no h hd
       repeat (first | refine aq ?_ | refine ap (by rfl : apartB 0 _ _ = true) ?_ | refine ak ?_ | refine ab ?_ | refine al ?_ | ((first | refine ar ?_ | refine ad ty_mix (by kernel_rfl) ?_ | refine ac ?_ | refine ae ?_ | with_reducible refine Later.mk ?_); simp only [evD, evL, iteL, aX, St.said, St.asked, evStep, evOp, evP, St.init, St.app, srcStep, kill, setMany, loadS, fieldS, buildS, toks, Fin, upd_app, Array.isEmpty, reduceLT, reduceAdd, reduceMul, reduceLeDiff, reduceSub, reduceEqDiff, reduceCtorEq, reduceIte, ↓Opt.is, ↓Opt.no, ↓Asks.yes, ↓Asks.no, tyL, encL, hgt, z3, asB]))
       refine ⟨_, hst, ?_⟩; (repeat (first | refine ap (by rfl : apartB 0 _ _ = true) ?_ | refine ap (by simp [osL, D.flat]) ?_)); repeat (first | refine aq ?_ | refine ap (by rfl : apartB 0 _ _ = true) ?_ | refine ak ?_ | refine ab ?_ | refine al ?_ | ((first | refine ar ?_ | refine ad ty_mix (by kernel_rfl) ?_ | refine ac ?_ | refine ae ?_ | with_reducible refine Later.mk ?_); simp only [evD, evL, iteL, aX, St.said, St.asked, evStep, evOp, evP, St.init, St.app, srcStep, kill, setMany, loadS, fieldS, buildS, toks, Fin, upd_app, Array.isEmpty, reduceLT, reduceAdd, reduceMul, reduceLeDiff, reduceSub, reduceEqDiff, reduceCtorEq, reduceIte, ↓Opt.is, ↓Opt.no, ↓Asks.yes, ↓Asks.no, tyL, encL, asB]))
       refine Ab.ret ?_; simp only [evD, evL, iteL, aX, St.said, St.asked, evStep, evOp, evP, St.init, St.app, srcStep, kill, setMany, loadS, fieldS, buildS, toks, Fin, upd_app, Array.isEmpty, reduceLT, reduceAdd, reduceMul, reduceLeDiff, reduceSub, reduceEqDiff, reduceCtorEq, reduceIte, ↓Opt.is, ↓Opt.no, ↓Asks.yes, ↓Asks.no, tyL, List.nodup_cons, encL, Tryd.f89, hr]
   · have h : i = f.length := by have := of_decide_eq_false h; omega
     subst h
     rw [List.take_length] at hI
     repeat (first | refine aq ?_ | refine ap (by rfl : apartB 0 _ _ = true) ?_ | refine ak ?_ | refine ab ?_ | refine al ?_ | ((first | refine ar ?_ | refine ad ty_mix (by kernel_rfl) ?_ | refine ac ?_ | refine ae ?_ | with_reducible refine Later.mk ?_); simp only [evD, evL, iteL, aX, St.said, St.asked, evStep, evOp, evP, St.init, St.app, srcStep, kill, setMany, loadS, fieldS, buildS, toks, Fin, upd_app, Array.isEmpty, reduceLT, reduceAdd, reduceMul, reduceLeDiff, reduceSub, reduceEqDiff, reduceCtorEq, reduceIte, ↓Opt.is, ↓Opt.no, ↓Asks.yes, ↓Asks.no, tyL, encL, asB]))
     refine Ab.ret ?_; simp only [evD, evL, iteL, aX, St.said, St.asked, evStep, evOp, evP, St.init, St.app, srcStep, kill, setMany, loadS, fieldS, buildS, toks, Fin, upd_app, Array.isEmpty, reduceLT, reduceAdd, reduceMul, reduceLeDiff, reduceSub, reduceEqDiff, reduceCtorEq, reduceIte, ↓Opt.is, ↓Opt.no, ↓Asks.yes, ↓Asks.no, tyL, List.nodup_cons, encL, Tryd.f89, hI]
 · rw [decide_eq_false hl, Bool.and_false]
   have hg : ((f.length : Int) > 3) = True := eq_true (by omega)
   refine AC.intro Tryd.func89 rfl (by decide) (by simp [S.res, S.ress]) (by simp [S.os, S.oss]) (by simp [S.wfs, S.wf, dbS]) (by simp [Tryd.f89]) ?_; rw [Tryd.ntmps89]
   repeat (first | refine aq ?_ | refine ap (by rfl : apartB 0 _ _ = true) ?_ | refine ak ?_ | refine ab ?_ | refine al ?_ | ((first | refine ar ?_ | refine ad ty_mix (by kernel_rfl) ?_ | refine ac ?_ | refine ae ?_ | with_reducible refine Later.mk ?_); simp only [evD, evL, iteL, aX, St.said, St.asked, evStep, evOp, evP, St.init, St.app, srcStep, kill, setMany, loadS, fieldS, buildS, toks, Fin, upd_app, Array.isEmpty, reduceLT, reduceAdd, reduceMul, reduceLeDiff, reduceSub, reduceEqDiff, reduceCtorEq, reduceIte, ↓Opt.is, ↓Opt.no, ↓Asks.yes, ↓Asks.no, tyL, encL, hg, asB]))
   refine Ab.ret ?_; simp only [evD, evL, iteL, aX, St.said, St.asked, evStep, evOp, evP, St.init, St.app, srcStep, kill, setMany, loadS, fieldS, buildS, toks, Fin, upd_app, Array.isEmpty, reduceLT, reduceAdd, reduceMul, reduceLeDiff, reduceSub, reduceEqDiff, reduceCtorEq, reduceIte, ↓Opt.is, ↓Opt.no, ↓Asks.yes, ↓Asks.no, tyL, List.nodup_cons, encL, Tryd.f89]
theorem specIsValidRewriting_a {l : List Rel} (gl : (eSlice eRel).good l) {f : List Rst} (gf : (eSlice eRst).good f) (hf : f.length ≤ 1048576) (h1 : ∀ x, x ∈ f → x.ex.length ≤ 1048576 ∧ x.un.length ≤ 1048576) : AC Tryd.prog 86 [.d (encRs l), .d (encSts f)] (.d (.v (.bool (rwV l f)))) := by
 unfold rwV encSts
 have hcv := specAreValidRelations_a gl
 have hll : l.length ≤ maxLen := gl.1
 unfold maxLen at hll
 refine AC.intro Tryd.func86 rfl (by decide) (by simp [S.res, S.ress]) (by simp [S.os, S.oss]) (by simp [S.wfs, S.wf, dbS]) (by simp [Tryd.f86]) ?_; rw [Tryd.ntmps86]
 repeat (first | refine aq ?_ | refine ap (by rfl : apartB 0 _ _ = true) ?_ | refine ak ?_ | refine ab ?_ | refine al ?_ | ((first | refine ar ?_ | refine ad ty_mix (by kernel_rfl) ?_ | refine ac ?_ | refine ae ?_ | with_reducible refine Later.mk ?_); simp only [evD, evL, iteL, aX, St.said, St.asked, evStep, evOp, evP, St.init, St.app, srcStep, kill, setMany, loadS, fieldS, buildS, toks, Fin, upd_app, Array.isEmpty, reduceLT, reduceAdd, reduceMul, reduceLeDiff, reduceSub, reduceEqDiff, reduceCtorEq, reduceIte, ↓Opt.is, ↓Opt.no, ↓Asks.yes, ↓Asks.no, tyL, encL, asB]))
 refine Ab.loopI f.length (fun i => ((f.take i).all (stOk l)) = true) (fun i => mkS 81 [(0, .d (.sl (List.map encR l))), (1, .d (.sl (List.map encSt f))), (5, .d (.v (.int .i64 (i : Int))))] [] 160) rfl ?_ ?_
 · ((first | refine Le.mk rfl ?_ ?_ | refine LeTo.mk rfl ?_ ?_) <;> simp only [evD, evL, iteL, aX, St.said, St.asked, evStep, evOp, evP, St.init, St.app, srcStep, kill, setMany, loadS, fieldS, buildS, toks, Fin, upd_app, Array.isEmpty, reduceLT, reduceAdd, reduceMul, reduceLeDiff, reduceSub, reduceEqDiff, reduceCtorEq, reduceIte, ↓Opt.is, ↓Opt.no, ↓Asks.yes, ↓Asks.no, tyL, encL, leL, leD, ne_eq])
 intro i hi hI
 repeat (first | refine aq ?_ | refine ap (by rfl : apartB 0 _ _ = true) ?_ | refine ak ?_ | refine ab ?_ | refine al ?_ | ((first | refine ar ?_ | refine ad ty_mix (by kernel_rfl) ?_ | refine ac ?_ | refine ae ?_ | with_reducible refine Later.mk ?_); simp only [evD, evL, iteL, aX, St.said, St.asked, evStep, evOp, evP, St.init, St.app, srcStep, kill, setMany, loadS, fieldS, buildS, toks, Fin, upd_app, Array.isEmpty, reduceLT, reduceAdd, reduceMul, reduceLeDiff, reduceSub, reduceEqDiff, reduceCtorEq, reduceIte, ↓Opt.is, ↓Opt.no, ↓Asks.yes, ↓Asks.no, tyL, encL, mkS, updl, asB]))
 refine ⟨fun h => ?_, fun h => ?_⟩
 · have h : i < f.length := by simpa using h
   have hw := wrapN h (by omega)
   have z3 : ∀ x : Nat, (0 ≤ (x : Int)) = True := fun x => eq_true (by omega)
   have gx := gf.2 _ (List.getElem_mem h)
   have hxl := h1 _ (List.getElem_mem h)
   have hgt := getSt h
   have hyes := all_step (p := stOk l) h hI
   have hno := all_no (p := stOk l) h
   have hin := in_b f[i].atom.rel 0 ((l.length : Int) - 1)
   have hw1 : IntKind.i64.wrap ((l.length : Int) - 1) = (l.length : Int) - 1 := by rw [IntKind.wrap_i64]; omega
   generalize hx : f[i] = x at *
   have hsx : stOk l x = (validRels l && ((inB x.atom.rel 0 ((l.length : Int) - 1) && (decide ((x.atom.terms.length : Int) = arityAt l x.atom.rel) && x.atom.terms.all (termIn 4))) && ((x.ex.all fun y => (keyVarsL l x.atom).contains y) && (x.un.all fun y => (varsL x.atom.terms).contains y)))) := rfl
   rcases Bool.eq_false_or_eq_true (validRels l) with c1 | c1 <;> rw [c1] at hcv hsx
   · rcases Bool.eq_false_or_eq_true (inB x.atom.rel 0 ((l.length : Int) - 1)) with c2 | c2 <;> rw [c2] at hin hsx
     · obtain ⟨r, hr0⟩ : ∃ r : Nat, x.atom.rel = (r : Int) := ⟨x.atom.rel.toNat, by unfold inB at c2; simp at c2; omega⟩
       have hrl : r < l.length := by unfold inB at c2; simp at c2; omega
       have hgr := getR hrl
       have har : arityAt l x.atom.rel = l[r].arity := by unfold arityAt; rw [hr0, Int.toNat_natCast, List.getElem?_eq_getElem hrl]
       rw [har] at hsx
       by_cases c3 : (x.atom.terms.length : Int) = l[r].arity
       · have hb : ((x.atom.terms.length : Int) != l[r].arity) = false := by rw [c3]; simp
         rw [decide_eq_true c3] at hsx
         simp only [Bool.true_and] at hsx
         have ht3 : x.atom.terms.length ≤ maxLen := gx.1.2.1
         unfold maxLen at ht3
         have ha : eAtm.good x.atom := gx.1
         have hkv := specKeyVariables_a gl ha
         have hav := specAtomVariables_a ha
         have hh1 := lHas_a (l := keyVarsL l x.atom) (m := x.ex) (keyVarsL_good l x.atom) hxl.1
         have hh2 := lHas_a (l := varsL x.atom.terms) (m := x.un) (varsL_good _) hxl.2
         unfold atmS at hkv hav
         repeat (first | refine aq ?_ | refine ap (by rfl : apartB 0 _ _ = true) ?_ | refine ak ?_ | refine ab ?_ | refine al ?_ | ((first | refine ar ?_ | refine ad ty_mix (by kernel_rfl) ?_ | refine ac ?_ | refine ae ?_ | with_reducible refine Later.mk ?_); simp only [evD, evL, iteL, aX, St.said, St.asked, evStep, evOp, evP, St.init, St.app, srcStep, kill, setMany, loadS, fieldS, buildS, toks, Fin, upd_app, Array.isEmpty, reduceLT, reduceAdd, reduceMul, reduceLeDiff, reduceSub, reduceEqDiff, reduceCtorEq, reduceIte, ↓Opt.is, ↓Opt.no, ↓Asks.yes, ↓Asks.no, tyL, encL, hgt, z3, asB]))
         refine ⟨_, hcv, ?_⟩; (repeat (first | refine ap (by rfl : apartB 0 _ _ = true) ?_ | refine ap (by simp [osL, D.flat]) ?_)); repeat (first | refine aq ?_ | refine ap (by rfl : apartB 0 _ _ = true) ?_ | refine ak ?_ | refine ab ?_ | refine al ?_ | ((first | refine ar ?_ | refine ad ty_mix (by kernel_rfl) ?_ | refine ac ?_ | refine ae ?_ | with_reducible refine Later.mk ?_); simp only [evD, evL, iteL, aX, St.said, St.asked, evStep, evOp, evP, St.init, St.app, srcStep, kill, setMany, loadS, fieldS, buildS, toks, Fin, upd_app, Array.isEmpty, reduceLT, reduceAdd, reduceMul, reduceLeDiff, reduceSub, reduceEqDiff, reduceCtorEq, reduceIte, ↓Opt.is, ↓Opt.no, ↓Asks.yes, ↓Asks.no, tyL, encL, hw1, asB]))
         rw [hr0] at hin hkv hav ⊢
         refine ⟨_, hin, ?_⟩; (repeat (first | refine ap (by rfl : apartB 0 _ _ = true) ?_ | refine ap (by simp [osL, D.flat]) ?_)); repeat (first | refine aq ?_ | refine ap (by rfl : apartB 0 _ _ = true) ?_ | refine ak ?_ | refine ab ?_ | refine al ?_ | ((first | refine ar ?_ | refine ad ty_mix (by kernel_rfl) ?_ | refine ac ?_ | refine ae ?_ | with_reducible refine Later.mk ?_); simp only [evD, evL, iteL, aX, St.said, St.asked, evStep, evOp, evP, St.init, St.app, srcStep, kill, setMany, loadS, fieldS, buildS, toks, Fin, upd_app, Array.isEmpty, reduceLT, reduceAdd, reduceMul, reduceLeDiff, reduceSub, reduceEqDiff, reduceCtorEq, reduceIte, ↓Opt.is, ↓Opt.no, ↓Asks.yes, ↓Asks.no, tyL, encL, hgr, z3, Int.toNat_natCast, encR, hb, asB]))
         refine Ab.loopI x.atom.terms.length (fun k => ((x.atom.terms.take k).all (termIn 4)) = true) (fun k => mkS 81 [(0, .d (.sl (List.map encR l))), (1, .d (.sl (List.map encSt f))), (5, .d (.v (.int .i64 (i : Int)))), (6, .p 304 0), (7, .d (.v (.int .i64 (k : Int))))] [(304, .box [.d (.v (.int .i64 (r : Int))), .d (.sl (List.map encI x.atom.terms))])] 800) rfl ?_ ?_
         · ((first | refine Le.mk rfl ?_ ?_ | refine LeTo.mk rfl ?_ ?_) <;> simp only [evD, evL, iteL, aX, St.said, St.asked, evStep, evOp, evP, St.init, St.app, srcStep, kill, setMany, loadS, fieldS, buildS, toks, Fin, upd_app, Array.isEmpty, reduceLT, reduceAdd, reduceMul, reduceLeDiff, reduceSub, reduceEqDiff, reduceCtorEq, reduceIte, ↓Opt.is, ↓Opt.no, ↓Asks.yes, ↓Asks.no, tyL, encL, leL, leD, ne_eq])
         intro k hk hK
         repeat (first | refine aq ?_ | refine ap (by rfl : apartB 0 _ _ = true) ?_ | refine ak ?_ | refine ab ?_ | refine al ?_ | ((first | refine ar ?_ | refine ad ty_mix (by kernel_rfl) ?_ | refine ac ?_ | refine ae ?_ | with_reducible refine Later.mk ?_); simp only [evD, evL, iteL, aX, St.said, St.asked, evStep, evOp, evP, St.init, St.app, srcStep, kill, setMany, loadS, fieldS, buildS, toks, Fin, upd_app, Array.isEmpty, reduceLT, reduceAdd, reduceMul, reduceLeDiff, reduceSub, reduceEqDiff, reduceCtorEq, reduceIte, ↓Opt.is, ↓Opt.no, ↓Asks.yes, ↓Asks.no, tyL, encL, mkS, updl, asB]))
         refine ⟨fun h2 => ?_, fun h2 => ?_⟩
         · have h2 : k < x.atom.terms.length := by simpa using h2
           have hwk : IntKind.i64.wrap ((k : Int) + 1) = ((k + 1 : Nat) : Int) := by rw [IntKind.wrap_i64]; omega
           have hgi := getI h2
           have hit := in_b x.atom.terms[k] (-10) 3
           have hkst := all_step (p := termIn 4) h2 hK
           have hkno := all_no (p := termIn 4) h2
           have htd : termIn 4 x.atom.terms[k] = inB x.atom.terms[k] (-10) 3 := rfl
           rcases Bool.eq_false_or_eq_true (inB x.atom.terms[k] (-10) 3) with c4 | c4 <;> rw [c4] at hit htd
           · repeat (first | refine aq ?_ | refine ap (by rfl : apartB 0 _ _ = true) ?_ | refine ak ?_ | refine ab ?_ | refine al ?_ | ((first | refine ar ?_ | refine ad ty_mix (by kernel_rfl) ?_ | refine ac ?_ | refine ae ?_ | with_reducible refine Later.mk ?_); simp only [evD, evL, iteL, aX, St.said, St.asked, evStep, evOp, evP, St.init, St.app, srcStep, kill, setMany, loadS, fieldS, buildS, toks, Fin, upd_app, Array.isEmpty, reduceLT, reduceAdd, reduceMul, reduceLeDiff, reduceSub, reduceEqDiff, reduceCtorEq, reduceIte, ↓Opt.is, ↓Opt.no, ↓Asks.yes, ↓Asks.no, tyL, encL, hgi, z3, asB]))
             refine ⟨_, hit, ?_⟩; (repeat (first | refine ap (by rfl : apartB 0 _ _ = true) ?_ | refine ap (by simp [osL, D.flat]) ?_)); repeat (first | refine aq ?_ | refine ap (by rfl : apartB 0 _ _ = true) ?_ | refine ak ?_ | refine ab ?_ | refine al ?_ | ((first | refine ar ?_ | refine ad ty_mix (by kernel_rfl) ?_ | refine ac ?_ | refine ae ?_ | with_reducible refine Later.mk ?_); simp only [evD, evL, iteL, aX, St.said, St.asked, evStep, evOp, evP, St.init, St.app, srcStep, kill, setMany, loadS, fieldS, buildS, toks, Fin, upd_app, Array.isEmpty, reduceLT, reduceAdd, reduceMul, reduceLeDiff, reduceSub, reduceEqDiff, reduceCtorEq, reduceIte, ↓Opt.is, ↓Opt.no, ↓Asks.yes, ↓Asks.no, tyL, encL, hwk, asB]))
             refine ⟨h2, hkst htd, ?_⟩
             ((first | refine Le.mk rfl ?_ ?_ | refine LeTo.mk rfl ?_ ?_) <;> simp only [evD, evL, iteL, aX, St.said, St.asked, evStep, evOp, evP, St.init, St.app, srcStep, kill, setMany, loadS, fieldS, buildS, toks, Fin, upd_app, Array.isEmpty, reduceLT, reduceAdd, reduceMul, reduceLeDiff, reduceSub, reduceEqDiff, reduceCtorEq, reduceIte, ↓Opt.is, ↓Opt.no, ↓Asks.yes, ↓Asks.no, tyL, encL, leL, leD, ne_eq])
           · have hr := hno (by rw [hsx, hkno htd]; rfl)
             repeat (first | refine aq ?_ | refine ap (by rfl : apartB 0 _ _ = true) ?_ | refine ak ?_ | refine ab ?_ | refine al ?_ | ((first | refine ar ?_ | refine ad ty_mix (by kernel_rfl) ?_ | refine ac ?_ | refine ae ?_ | with_reducible refine Later.mk ?_); simp only [evD, evL, iteL, aX, St.said, St.asked, evStep, evOp, evP, St.init, St.app, srcStep, kill, setMany, loadS, fieldS, buildS, toks, Fin, upd_app, Array.isEmpty, reduceLT, reduceAdd, reduceMul, reduceLeDiff, reduceSub, reduceEqDiff, reduceCtorEq, reduceIte, ↓Opt.is, ↓Opt.no, ↓Asks.yes, ↓Asks.no, tyL, encL, hgi, z3, asB]))
             refine ⟨_, hit, ?_⟩; (repeat (first | refine ap (by rfl : apartB 0 _ _ = true) ?_ | refine ap (by simp [osL, D.flat]) ?_)); repeat (first | refine aq ?_ | refine ap (by rfl : apartB 0 _ _ = true) ?_ | refine ak ?_ | refine ab ?_ | refine al ?_ | ((first | refine ar ?_ | refine ad ty_mix (by kernel_rfl) ?_ | refine ac ?_ | refine ae ?_ | with_reducible refine Later.mk ?_); simp only [evD, evL, iteL, aX, St.said, St.asked, evStep, evOp, evP, St.init, St.app, srcStep, kill, setMany, loadS, fieldS, buildS, toks, Fin, upd_app, Array.isEmpty, reduceLT, reduceAdd, reduceMul, reduceLeDiff, reduceSub, reduceEqDiff, reduceCtorEq, reduceIte, ↓Opt.is, ↓Opt.no, ↓Asks.yes, ↓Asks.no, tyL, encL, asB]))
             refine Ab.ret ?_; simp only [evD, evL, iteL, aX, St.said, St.asked, evStep, evOp, evP, St.init, St.app, srcStep, kill, setMany, loadS, fieldS, buildS, toks, Fin, upd_app, Array.isEmpty, reduceLT, reduceAdd, reduceMul, reduceLeDiff, reduceSub, reduceEqDiff, reduceCtorEq, reduceIte, ↓Opt.is, ↓Opt.no, ↓Asks.yes, ↓Asks.no, tyL, List.nodup_cons, encL, Tryd.f86, hr]
         · have h2 : k = x.atom.terms.length := by have := of_decide_eq_false h2; omega
           subst h2
           rw [List.take_length] at hK
           rw [hK, Bool.true_and] at hsx
           generalize keyVarsL l x.atom = KV at *
           generalize varsL x.atom.terms = AV at *
           generalize (x.ex.all fun y => KV.contains y) = b3 at *
           generalize (x.un.all fun y => AV.contains y) = b4 at *
           cases b3
           · have hr := hno hsx
             repeat (first | refine aq ?_ | refine ap (by rfl : apartB 0 _ _ = true) ?_ | refine ak ?_ | refine ab ?_ | refine al ?_ | ((first | refine ar ?_ | refine ad ty_mix (by kernel_rfl) ?_ | refine ac ?_ | refine ae ?_ | with_reducible refine Later.mk ?_); simp only [evD, evL, iteL, aX, St.said, St.asked, evStep, evOp, evP, St.init, St.app, srcStep, kill, setMany, loadS, fieldS, buildS, toks, Fin, upd_app, Array.isEmpty, reduceLT, reduceAdd, reduceMul, reduceLeDiff, reduceSub, reduceEqDiff, reduceCtorEq, reduceIte, ↓Opt.is, ↓Opt.no, ↓Asks.yes, ↓Asks.no, tyL, encL, asB]))
             refine ⟨_, hkv, ?_⟩; (repeat (first | refine ap (by rfl : apartB 0 _ _ = true) ?_ | refine ap (by simp [osL, D.flat]) ?_)); repeat (first | refine aq ?_ | refine ap (by rfl : apartB 0 _ _ = true) ?_ | refine ak ?_ | refine ab ?_ | refine al ?_ | ((first | refine ar ?_ | refine ad ty_mix (by kernel_rfl) ?_ | refine ac ?_ | refine ae ?_ | with_reducible refine Later.mk ?_); simp only [evD, evL, iteL, aX, St.said, St.asked, evStep, evOp, evP, St.init, St.app, srcStep, kill, setMany, loadS, fieldS, buildS, toks, Fin, upd_app, Array.isEmpty, reduceLT, reduceAdd, reduceMul, reduceLeDiff, reduceSub, reduceEqDiff, reduceCtorEq, reduceIte, ↓Opt.is, ↓Opt.no, ↓Asks.yes, ↓Asks.no, tyL, encL, hgt, z3, asB]))
             refine ⟨_, hh1, ?_⟩; (repeat (first | refine ap (by rfl : apartB 0 _ _ = true) ?_ | refine ap (by simp [osL, D.flat]) ?_)); repeat (first | refine aq ?_ | refine ap (by rfl : apartB 0 _ _ = true) ?_ | refine ak ?_ | refine ab ?_ | refine al ?_ | ((first | refine ar ?_ | refine ad ty_mix (by kernel_rfl) ?_ | refine ac ?_ | refine ae ?_ | with_reducible refine Later.mk ?_); simp only [evD, evL, iteL, aX, St.said, St.asked, evStep, evOp, evP, St.init, St.app, srcStep, kill, setMany, loadS, fieldS, buildS, toks, Fin, upd_app, Array.isEmpty, reduceLT, reduceAdd, reduceMul, reduceLeDiff, reduceSub, reduceEqDiff, reduceCtorEq, reduceIte, ↓Opt.is, ↓Opt.no, ↓Asks.yes, ↓Asks.no, tyL, encL, asB]))
             refine Ab.ret ?_; simp only [evD, evL, iteL, aX, St.said, St.asked, evStep, evOp, evP, St.init, St.app, srcStep, kill, setMany, loadS, fieldS, buildS, toks, Fin, upd_app, Array.isEmpty, reduceLT, reduceAdd, reduceMul, reduceLeDiff, reduceSub, reduceEqDiff, reduceCtorEq, reduceIte, ↓Opt.is, ↓Opt.no, ↓Asks.yes, ↓Asks.no, tyL, List.nodup_cons, encL, Tryd.f86, hr]
           · cases b4
             · have hr := hno hsx
               repeat (first | refine aq ?_ | refine ap (by rfl : apartB 0 _ _ = true) ?_ | refine ak ?_ | refine ab ?_ | refine al ?_ | ((first | refine ar ?_ | refine ad ty_mix (by kernel_rfl) ?_ | refine ac ?_ | refine ae ?_ | with_reducible refine Later.mk ?_); simp only [evD, evL, iteL, aX, St.said, St.asked, evStep, evOp, evP, St.init, St.app, srcStep, kill, setMany, loadS, fieldS, buildS, toks, Fin, upd_app, Array.isEmpty, reduceLT, reduceAdd, reduceMul, reduceLeDiff, reduceSub, reduceEqDiff, reduceCtorEq, reduceIte, ↓Opt.is, ↓Opt.no, ↓Asks.yes, ↓Asks.no, tyL, encL, asB]))
               refine ⟨_, hkv, ?_⟩; (repeat (first | refine ap (by rfl : apartB 0 _ _ = true) ?_ | refine ap (by simp [osL, D.flat]) ?_)); repeat (first | refine aq ?_ | refine ap (by rfl : apartB 0 _ _ = true) ?_ | refine ak ?_ | refine ab ?_ | refine al ?_ | ((first | refine ar ?_ | refine ad ty_mix (by kernel_rfl) ?_ | refine ac ?_ | refine ae ?_ | with_reducible refine Later.mk ?_); simp only [evD, evL, iteL, aX, St.said, St.asked, evStep, evOp, evP, St.init, St.app, srcStep, kill, setMany, loadS, fieldS, buildS, toks, Fin, upd_app, Array.isEmpty, reduceLT, reduceAdd, reduceMul, reduceLeDiff, reduceSub, reduceEqDiff, reduceCtorEq, reduceIte, ↓Opt.is, ↓Opt.no, ↓Asks.yes, ↓Asks.no, tyL, encL, hgt, z3, asB]))
               refine ⟨_, hh1, ?_⟩; (repeat (first | refine ap (by rfl : apartB 0 _ _ = true) ?_ | refine ap (by simp [osL, D.flat]) ?_)); repeat (first | refine aq ?_ | refine ap (by rfl : apartB 0 _ _ = true) ?_ | refine ak ?_ | refine ab ?_ | refine al ?_ | ((first | refine ar ?_ | refine ad ty_mix (by kernel_rfl) ?_ | refine ac ?_ | refine ae ?_ | with_reducible refine Later.mk ?_); simp only [evD, evL, iteL, aX, St.said, St.asked, evStep, evOp, evP, St.init, St.app, srcStep, kill, setMany, loadS, fieldS, buildS, toks, Fin, upd_app, Array.isEmpty, reduceLT, reduceAdd, reduceMul, reduceLeDiff, reduceSub, reduceEqDiff, reduceCtorEq, reduceIte, ↓Opt.is, ↓Opt.no, ↓Asks.yes, ↓Asks.no, tyL, encL, asB]))
               refine ⟨_, hav, ?_⟩; (repeat (first | refine ap (by rfl : apartB 0 _ _ = true) ?_ | refine ap (by simp [osL, D.flat]) ?_)); repeat (first | refine aq ?_ | refine ap (by rfl : apartB 0 _ _ = true) ?_ | refine ak ?_ | refine ab ?_ | refine al ?_ | ((first | refine ar ?_ | refine ad ty_mix (by kernel_rfl) ?_ | refine ac ?_ | refine ae ?_ | with_reducible refine Later.mk ?_); simp only [evD, evL, iteL, aX, St.said, St.asked, evStep, evOp, evP, St.init, St.app, srcStep, kill, setMany, loadS, fieldS, buildS, toks, Fin, upd_app, Array.isEmpty, reduceLT, reduceAdd, reduceMul, reduceLeDiff, reduceSub, reduceEqDiff, reduceCtorEq, reduceIte, ↓Opt.is, ↓Opt.no, ↓Asks.yes, ↓Asks.no, tyL, encL, hgt, z3, asB]))
               refine ⟨_, hh2, ?_⟩; (repeat (first | refine ap (by rfl : apartB 0 _ _ = true) ?_ | refine ap (by simp [osL, D.flat]) ?_)); repeat (first | refine aq ?_ | refine ap (by rfl : apartB 0 _ _ = true) ?_ | refine ak ?_ | refine ab ?_ | refine al ?_ | ((first | refine ar ?_ | refine ad ty_mix (by kernel_rfl) ?_ | refine ac ?_ | refine ae ?_ | with_reducible refine Later.mk ?_); simp only [evD, evL, iteL, aX, St.said, St.asked, evStep, evOp, evP, St.init, St.app, srcStep, kill, setMany, loadS, fieldS, buildS, toks, Fin, upd_app, Array.isEmpty, reduceLT, reduceAdd, reduceMul, reduceLeDiff, reduceSub, reduceEqDiff, reduceCtorEq, reduceIte, ↓Opt.is, ↓Opt.no, ↓Asks.yes, ↓Asks.no, tyL, encL, asB]))
               refine Ab.ret ?_; simp only [evD, evL, iteL, aX, St.said, St.asked, evStep, evOp, evP, St.init, St.app, srcStep, kill, setMany, loadS, fieldS, buildS, toks, Fin, upd_app, Array.isEmpty, reduceLT, reduceAdd, reduceMul, reduceLeDiff, reduceSub, reduceEqDiff, reduceCtorEq, reduceIte, ↓Opt.is, ↓Opt.no, ↓Asks.yes, ↓Asks.no, tyL, List.nodup_cons, encL, Tryd.f86, hr]
             · have hs := hyes hsx
               repeat (first | refine aq ?_ | refine ap (by rfl : apartB 0 _ _ = true) ?_ | refine ak ?_ | refine ab ?_ | refine al ?_ | ((first | refine ar ?_ | refine ad ty_mix (by kernel_rfl) ?_ | refine ac ?_ | refine ae ?_ | with_reducible refine Later.mk ?_); simp only [evD, evL, iteL, aX, St.said, St.asked, evStep, evOp, evP, St.init, St.app, srcStep, kill, setMany, loadS, fieldS, buildS, toks, Fin, upd_app, Array.isEmpty, reduceLT, reduceAdd, reduceMul, reduceLeDiff, reduceSub, reduceEqDiff, reduceCtorEq, reduceIte, ↓Opt.is, ↓Opt.no, ↓Asks.yes, ↓Asks.no, tyL, encL, asB]))
               refine ⟨_, hkv, ?_⟩; (repeat (first | refine ap (by rfl : apartB 0 _ _ = true) ?_ | refine ap (by simp [osL, D.flat]) ?_)); repeat (first | refine aq ?_ | refine ap (by rfl : apartB 0 _ _ = true) ?_ | refine ak ?_ | refine ab ?_ | refine al ?_ | ((first | refine ar ?_ | refine ad ty_mix (by kernel_rfl) ?_ | refine ac ?_ | refine ae ?_ | with_reducible refine Later.mk ?_); simp only [evD, evL, iteL, aX, St.said, St.asked, evStep, evOp, evP, St.init, St.app, srcStep, kill, setMany, loadS, fieldS, buildS, toks, Fin, upd_app, Array.isEmpty, reduceLT, reduceAdd, reduceMul, reduceLeDiff, reduceSub, reduceEqDiff, reduceCtorEq, reduceIte, ↓Opt.is, ↓Opt.no, ↓Asks.yes, ↓Asks.no, tyL, encL, hgt, z3, asB]))
               refine ⟨_, hh1, ?_⟩; (repeat (first | refine ap (by rfl : apartB 0 _ _ = true) ?_ | refine ap (by simp [osL, D.flat]) ?_)); repeat (first | refine aq ?_ | refine ap (by rfl : apartB 0 _ _ = true) ?_ | refine ak ?_ | refine ab ?_ | refine al ?_ | ((first | refine ar ?_ | refine ad ty_mix (by kernel_rfl) ?_ | refine ac ?_ | refine ae ?_ | with_reducible refine Later.mk ?_); simp only [evD, evL, iteL, aX, St.said, St.asked, evStep, evOp, evP, St.init, St.app, srcStep, kill, setMany, loadS, fieldS, buildS, toks, Fin, upd_app, Array.isEmpty, reduceLT, reduceAdd, reduceMul, reduceLeDiff, reduceSub, reduceEqDiff, reduceCtorEq, reduceIte, ↓Opt.is, ↓Opt.no, ↓Asks.yes, ↓Asks.no, tyL, encL, asB]))
               refine ⟨_, hav, ?_⟩; (repeat (first | refine ap (by rfl : apartB 0 _ _ = true) ?_ | refine ap (by simp [osL, D.flat]) ?_)); repeat (first | refine aq ?_ | refine ap (by rfl : apartB 0 _ _ = true) ?_ | refine ak ?_ | refine ab ?_ | refine al ?_ | ((first | refine ar ?_ | refine ad ty_mix (by kernel_rfl) ?_ | refine ac ?_ | refine ae ?_ | with_reducible refine Later.mk ?_); simp only [evD, evL, iteL, aX, St.said, St.asked, evStep, evOp, evP, St.init, St.app, srcStep, kill, setMany, loadS, fieldS, buildS, toks, Fin, upd_app, Array.isEmpty, reduceLT, reduceAdd, reduceMul, reduceLeDiff, reduceSub, reduceEqDiff, reduceCtorEq, reduceIte, ↓Opt.is, ↓Opt.no, ↓Asks.yes, ↓Asks.no, tyL, encL, hgt, z3, asB]))
               refine ⟨_, hh2, ?_⟩; (repeat (first | refine ap (by rfl : apartB 0 _ _ = true) ?_ | refine ap (by simp [osL, D.flat]) ?_)); repeat (first | refine aq ?_ | refine ap (by rfl : apartB 0 _ _ = true) ?_ | refine ak ?_ | refine ab ?_ | refine al ?_ | ((first | refine ar ?_ | refine ad ty_mix (by kernel_rfl) ?_ | refine ac ?_ | refine ae ?_ | with_reducible refine Later.mk ?_); simp only [evD, evL, iteL, aX, St.said, St.asked, evStep, evOp, evP, St.init, St.app, srcStep, kill, setMany, loadS, fieldS, buildS, toks, Fin, upd_app, Array.isEmpty, reduceLT, reduceAdd, reduceMul, reduceLeDiff, reduceSub, reduceEqDiff, reduceCtorEq, reduceIte, ↓Opt.is, ↓Opt.no, ↓Asks.yes, ↓Asks.no, tyL, encL, hw, asB]))
               refine ⟨h, hs, ?_⟩
               ((first | refine Le.mk rfl ?_ ?_ | refine LeTo.mk rfl ?_ ?_) <;> simp only [evD, evL, iteL, aX, St.said, St.asked, evStep, evOp, evP, St.init, St.app, srcStep, kill, setMany, loadS, fieldS, buildS, toks, Fin, upd_app, Array.isEmpty, reduceLT, reduceAdd, reduceMul, reduceLeDiff, reduceSub, reduceEqDiff, reduceCtorEq, reduceIte, ↓Opt.is, ↓Opt.no, ↓Asks.yes, ↓Asks.no, tyL, encL, leL, leD, ne_eq])
       · have hb : ((x.atom.terms.length : Int) != l[r].arity) = true := bne_iff_ne.2 c3
         have hr := hno (by rw [hsx, decide_eq_false c3]; rfl)
         repeat (first | refine aq ?_ | refine ap (by rfl : apartB 0 _ _ = true) ?_ | refine ak ?_ | refine ab ?_ | refine al ?_ | ((first | refine ar ?_ | refine ad ty_mix (by kernel_rfl) ?_ | refine ac ?_ | refine ae ?_ | with_reducible refine Later.mk ?_); simp only [evD, evL, iteL, aX, St.said, St.asked, evStep, evOp, evP, St.init, St.app, srcStep, kill, setMany, loadS, fieldS, buildS, toks, Fin, upd_app, Array.isEmpty, reduceLT, reduceAdd, reduceMul, reduceLeDiff, reduceSub, reduceEqDiff, reduceCtorEq, reduceIte, ↓Opt.is, ↓Opt.no, ↓Asks.yes, ↓Asks.no, tyL, encL, hgt, z3, asB]))
         refine ⟨_, hcv, ?_⟩; (repeat (first | refine ap (by rfl : apartB 0 _ _ = true) ?_ | refine ap (by simp [osL, D.flat]) ?_)); repeat (first | refine aq ?_ | refine ap (by rfl : apartB 0 _ _ = true) ?_ | refine ak ?_ | refine ab ?_ | refine al ?_ | ((first | refine ar ?_ | refine ad ty_mix (by kernel_rfl) ?_ | refine ac ?_ | refine ae ?_ | with_reducible refine Later.mk ?_); simp only [evD, evL, iteL, aX, St.said, St.asked, evStep, evOp, evP, St.init, St.app, srcStep, kill, setMany, loadS, fieldS, buildS, toks, Fin, upd_app, Array.isEmpty, reduceLT, reduceAdd, reduceMul, reduceLeDiff, reduceSub, reduceEqDiff, reduceCtorEq, reduceIte, ↓Opt.is, ↓Opt.no, ↓Asks.yes, ↓Asks.no, tyL, encL, hw1, asB]))
         rw [hr0] at hin ⊢
         refine ⟨_, hin, ?_⟩; (repeat (first | refine ap (by rfl : apartB 0 _ _ = true) ?_ | refine ap (by simp [osL, D.flat]) ?_)); repeat (first | refine aq ?_ | refine ap (by rfl : apartB 0 _ _ = true) ?_ | refine ak ?_ | refine ab ?_ | refine al ?_ | ((first | refine ar ?_ | refine ad ty_mix (by kernel_rfl) ?_ | refine ac ?_ | refine ae ?_ | with_reducible refine Later.mk ?_); simp only [evD, evL, iteL, aX, St.said, St.asked, evStep, evOp, evP, St.init, St.app, srcStep, kill, setMany, loadS, fieldS, buildS, toks, Fin, upd_app, Array.isEmpty, reduceLT, reduceAdd, reduceMul, reduceLeDiff, reduceSub, reduceEqDiff, reduceCtorEq, reduceIte, ↓Opt.is, ↓Opt.no, ↓Asks.yes, ↓Asks.no, tyL, encL, hgr, z3, Int.toNat_natCast, encR, hb, asB]))
         refine Ab.ret ?_; simp only [evD, evL, iteL, aX, St.said, St.asked, evStep, evOp, evP, St.init, St.app, srcStep, kill, setMany, loadS, fieldS, buildS, toks, Fin, upd_app, Array.isEmpty, reduceLT, reduceAdd, reduceMul, reduceLeDiff, reduceSub, reduceEqDiff, reduceCtorEq, reduceIte, ↓Opt.is, ↓Opt.no, ↓Asks.yes, ↓Asks.no, tyL, List.nodup_cons, encL, Tryd.f86, hr]
     · have hr := hno (by rw [hsx]; rfl)
       repeat (first | refine aq ?_ | refine ap (by rfl : apartB 0 _ _ = true) ?_ | refine ak ?_ | refine ab ?_ | refine al ?_ | ((first | refine ar ?_ | refine ad ty_mix (by kernel_rfl) ?_ | refine ac ?_ | refine ae ?_ | with_reducible refine Later.mk ?_); simp only [evD, evL, iteL, aX, St.said, St.asked, evStep, evOp, evP, St.init, St.app, srcStep, kill, setMany, loadS, fieldS, buildS, toks, Fin, upd_app, Array.isEmpty, reduceLT, reduceAdd, reduceMul, reduceLeDiff, reduceSub, reduceEqDiff, reduceCtorEq, reduceIte, ↓Opt.is, ↓Opt.no, ↓Asks.yes, ↓Asks.no, tyL, encL, hgt, z3, asB]))
       refine ⟨_, hcv, ?_⟩; (repeat (first | refine ap (by rfl : apartB 0 _ _ = true) ?_ | refine ap (by simp [osL, D.flat]) ?_)); repeat (first | refine aq ?_ | refine ap (by rfl : apartB 0 _ _ = true) ?_ | refine ak ?_ | refine ab ?_ | refine al ?_ | ((first | refine ar ?_ | refine ad ty_mix (by kernel_rfl) ?_ | refine ac ?_ | refine ae ?_ | with_reducible refine Later.mk ?_); simp only [evD, evL, iteL, aX, St.said, St.asked, evStep, evOp, evP, St.init, St.app, srcStep, kill, setMany, loadS, fieldS, buildS, toks, Fin, upd_app, Array.isEmpty, reduceLT, reduceAdd, reduceMul, reduceLeDiff, reduceSub, reduceEqDiff, reduceCtorEq, reduceIte, ↓Opt.is, ↓Opt.no, ↓Asks.yes, ↓Asks.no, tyL, encL, hw1, asB]))
       refine ⟨_, hin, ?_⟩; (repeat (first | refine ap (by rfl : apartB 0 _ _ = true) ?_ | refine ap (by simp [osL, D.flat]) ?_)); repeat (first | refine aq ?_ | refine ap (by rfl : apartB 0 _ _ = true) ?_ | refine ak ?_ | refine ab ?_ | refine al ?_ | ((first | refine ar ?_ | refine ad ty_mix (by kernel_rfl) ?_ | refine ac ?_ | refine ae ?_ | with_reducible refine Later.mk ?_); simp only [evD, evL, iteL, aX, St.said, St.asked, evStep, evOp, evP, St.init, St.app, srcStep, kill, setMany, loadS, fieldS, buildS, toks, Fin, upd_app, Array.isEmpty, reduceLT, reduceAdd, reduceMul, reduceLeDiff, reduceSub, reduceEqDiff, reduceCtorEq, reduceIte, ↓Opt.is, ↓Opt.no, ↓Asks.yes, ↓Asks.no, tyL, encL, asB]))
       refine Ab.ret ?_; simp only [evD, evL, iteL, aX, St.said, St.asked, evStep, evOp, evP, St.init, St.app, srcStep, kill, setMany, loadS, fieldS, buildS, toks, Fin, upd_app, Array.isEmpty, reduceLT, reduceAdd, reduceMul, reduceLeDiff, reduceSub, reduceEqDiff, reduceCtorEq, reduceIte, ↓Opt.is, ↓Opt.no, ↓Asks.yes, ↓Asks.no, tyL, List.nodup_cons, encL, Tryd.f86, hr]
   · have hr := hno (by rw [hsx]; rfl)
     repeat (first | refine aq ?_ | refine ap (by rfl : apartB 0 _ _ = true) ?_ | refine ak ?_ | refine ab ?_ | refine al ?_ | ((first | refine ar ?_ | refine ad ty_mix (by kernel_rfl) ?_ | refine ac ?_ | refine ae ?_ | with_reducible refine Later.mk ?_); simp only [evD, evL, iteL, aX, St.said, St.asked, evStep, evOp, evP, St.init, St.app, srcStep, kill, setMany, loadS, fieldS, buildS, toks, Fin, upd_app, Array.isEmpty, reduceLT, reduceAdd, reduceMul, reduceLeDiff, reduceSub, reduceEqDiff, reduceCtorEq, reduceIte, ↓Opt.is, ↓Opt.no, ↓Asks.yes, ↓Asks.no, tyL, encL, hgt, z3, asB]))
     refine ⟨_, hcv, ?_⟩; (repeat (first | refine ap (by rfl : apartB 0 _ _ = true) ?_ | refine ap (by simp [osL, D.flat]) ?_)); repeat (first | refine aq ?_ | refine ap (by rfl : apartB 0 _ _ = true) ?_ | refine ak ?_ | refine ab ?_ | refine al ?_ | ((first | refine ar ?_ | refine ad ty_mix (by kernel_rfl) ?_ | refine ac ?_ | refine ae ?_ | with_reducible refine Later.mk ?_); simp only [evD, evL, iteL, aX, St.said, St.asked, evStep, evOp, evP, St.init, St.app, srcStep, kill, setMany, loadS, fieldS, buildS, toks, Fin, upd_app, Array.isEmpty, reduceLT, reduceAdd, reduceMul, reduceLeDiff, reduceSub, reduceEqDiff, reduceCtorEq, reduceIte, ↓Opt.is, ↓Opt.no, ↓Asks.yes, ↓Asks.no, tyL, encL, asB]))
     refine Ab.ret ?_; simp only [evD, evL, iteL, aX, St.said, St.asked, evStep, evOp, evP, St.init, St.app, srcStep, kill, setMany, loadS, fieldS, buildS, toks, Fin, upd_app, Array.isEmpty, reduceLT, reduceAdd, reduceMul, reduceLeDiff, reduceSub, reduceEqDiff, reduceCtorEq, reduceIte, ↓Opt.is, ↓Opt.no, ↓Asks.yes, ↓Asks.no, tyL, List.nodup_cons, encL, Tryd.f86, hr]
 · have h : i = f.length := by have := of_decide_eq_false h; omega
   subst h
   rw [List.take_length] at hI
   have hle : decide ((f.length : Int) ≤ 3) = decide (f.length ≤ 3) := by congr 1; exact propext ⟨fun h => by omega, fun h => by omega⟩
   repeat (first | refine aq ?_ | refine ap (by rfl : apartB 0 _ _ = true) ?_ | refine ak ?_ | refine ab ?_ | refine al ?_ | ((first | refine ar ?_ | refine ad ty_mix (by kernel_rfl) ?_ | refine ac ?_ | refine ae ?_ | with_reducible refine Later.mk ?_); simp only [evD, evL, iteL, aX, St.said, St.asked, evStep, evOp, evP, St.init, St.app, srcStep, kill, setMany, loadS, fieldS, buildS, toks, Fin, upd_app, Array.isEmpty, reduceLT, reduceAdd, reduceMul, reduceLeDiff, reduceSub, reduceEqDiff, reduceCtorEq, reduceIte, ↓Opt.is, ↓Opt.no, ↓Asks.yes, ↓Asks.no, tyL, encL, hle, asB]))
   refine Ab.ret ?_; simp only [evD, evL, iteL, aX, St.said, St.asked, evStep, evOp, evP, St.init, St.app, srcStep, kill, setMany, loadS, fieldS, buildS, toks, Fin, upd_app, Array.isEmpty, reduceLT, reduceAdd, reduceMul, reduceLeDiff, reduceSub, reduceEqDiff, reduceCtorEq, reduceIte, ↓Opt.is, ↓Opt.no, ↓Asks.yes, ↓Asks.no, tyL, List.nodup_cons, encL, Tryd.f86, hI, hle]
end Ab
end

section
/- strings.Builder at this dump: WriteByte's contract (the shelf's own does not fit this dump's copyCheck). -/
open Go.RowKit
theorem Tryd.sizeB : (Tryd.prog.info? 180).map (·.size) = some 2 := by kernel_rfl
theorem Tryd.liesB : liesAt Tryd.prog Tryd.prog.depth 180 (2 / Tryd.prog.cellsOf 180) 0 180 1 = true := by kernel_rfl
theorem Tryd.infoU8 : (Tryd.prog.info? 5).map (fun i => (i.zero, i.size, i.bytes)) = some (some (.int .u8 0), 1, 1) := by kernel_rfl
theorem copyCheck_used (b : Nat) (w : World) (h0 : w.cell? ⟨b, 0, none⟩ = some (.pointer (some ⟨b, 0, none⟩))) :
   Calls Tryd.prog 155 #[.pointer (some ⟨b, 0, none⟩)] w fun e w' => e = .returned (.tuple #[]) ∧ w = w' := by
 obtain ⟨j, hj, _⟩ := Option.map_eq_some_iff.1 Tryd.sizeB
 have hne := fun ww => Lib.run_neq_ptr_same (P := Tryd.prog) ww ⟨b, 0, none⟩ Tryd.underlying178 hj
 go_enter Tryd.func155, Tryd.ntmps155
 go_wp2
 go_end0
 exact ⟨rfl, rfl⟩
theorem copyCheck_fresh (b : Nat) (w : World) (h0 : w.cell? ⟨b, 0, none⟩ = some (.pointer none)) (hsh : w.shape? b = some (180, 2)) (hfz : w.frozen? ⟨b, 0, none⟩ = false) :
   Calls Tryd.prog 155 #[.pointer (some ⟨b, 0, none⟩)] w fun e w' => e = .returned (.tuple #[]) ∧ w' = w.setCell ⟨b, 0, none⟩ (.pointer (some ⟨b, 0, none⟩)) := by
 obtain ⟨j, hj, hjs⟩ := Option.map_eq_some_iff.1 Tryd.sizeB
 have k1 := Lib.run_to_unsafe (P := Tryd.prog) w ⟨b, 0, none⟩ Tryd.underlying178 Tryd.underlying201 hj (by rw [hjs]; decide) hsh (Nat.zero_lt_succ 1)
 have k2 : ∀ x ww, (callFunc 164 #[x]).run Tryd.prog ww = .ok (.value x) ww := fun x ww => by
   rw [run_callFunc_extern Tryd.func164 (by kernel_rfl) (by kernel_rfl) (by kernel_rfl) (e := Extern.AbiNoEscape.same) (by kernel_rfl), Lib.run_noEscape]; rfl
 have k3 := Lib.run_from_unsafe (P := Tryd.prog) w ⟨b, 0, none⟩ Tryd.underlying201 Tryd.underlying178 hj hsh Tryd.liesB
 have hne := fun ww => Lib.run_neq_ptr_same (P := Tryd.prog) ww ⟨b, 0, none⟩ Tryd.underlying178 hj
 go_enter Tryd.func155, Tryd.ntmps155
 go_wp2
 go_end0
 exact ⟨rfl, rfl⟩
theorem copyCheck_any (B b : Nat) (bs : List Value) (w : World) (h : Lib.IsBuilder 180 5 B b bs w) :
   Calls Tryd.prog 155 #[.pointer (some ⟨b, 0, none⟩)] w fun e w' => e = .returned (.tuple #[]) ∧ (Lib.BuilderAt 180 5 B b (.pointer (some ⟨b, 0, none⟩)) bs w' ∧ Below B w w') := by
 rcases h with h | h
 · exact (copyCheck_fresh b w h.cell0 h.shape h.frozen0).mono fun e w' ⟨h1, h2⟩ => ⟨h1, by rw [h2]; exact h.used _, by rw [h2]; exact (Below.refl B w).setCell (p := ⟨b, 0, none⟩) h.1 _⟩
 · exact (copyCheck_used b w h.cell0).mono fun e w' ⟨h1, h2⟩ => ⟨h1, by rw [← h2]; exact h, by rw [← h2]; exact Below.refl _ _⟩
theorem writeByte_any (B b : Nat) (l : List UInt8) (c : UInt8) (x : Int) (hx : x = (c.toNat : Int)) (w : World) (h : Lib.IsBuilder 180 5 B b (Lib.byteCells l) w) (hlen : l.length + 1 ≤ 140737488355328) (hBw : B ≤ w.heap.size) :
   Calls Tryd.prog 138 #[.pointer (some ⟨b, 0, none⟩), .int .u8 x] w fun e w' => e = .returned .nilIface ∧ Lib.IsBuilder 180 5 B b (Lib.byteCells (l ++ [c])) w' ∧ Below B w w' := by
 obtain ⟨i0, hi, hz0, hz1, hz2⟩ := info_parts Tryd.infoU8
 have hL : (Lib.byteCells l).length = l.length := Lib.byteCells_length l
 go_enter Tryd.func138, Tryd.ntmps138
 go_wp2_with (go_at_call 155; refine (copyCheck_any B b _ _ h).mono ?_)
 rintro e w1 ⟨rfl, hab, hb1⟩
 have hlt := hab.lt
 obtain ⟨hB, v, hbk, hown, hne⟩ := hab
 rw [hL] at hown
 have Hx := Lib.hid hx
 have HL := Lib.hid hL
 clear hx hL
 have d0 : w1.cell? ⟨b, 0, none⟩ = some (.pointer (some ⟨b, 0, none⟩)) := by rw [Lib.cell_of_heap hbk]; rfl
 have d1 : w1.cell? ⟨b, 1, none⟩ = some v := by rw [Lib.cell_of_heap hbk]; rfl
 go_wp2_with (at_builtin; refine wpList_append_own _ rfl _ _ 159 rfl B 5 i0 (.int .u8 0) 1 1 Tryd.underlying159 hi hz0 hz1 hz2 rfl (by decide) _ _ _ rfl (hown.alloc _) ⟨w1.heap.size, 0, none⟩ 1 1 [.int .u8 x] rfl rfl ?c1 ?c2 ?c3 ?c4 ?c5 ?_)
 case c1 => exact one_at _ _ _
 case c2 => exact one_oneCell _ _
 case c3 => unfold maxLen; omega
 case c4 => omega
 case c5 => have := hb1.size; simp; omega
 intro v' w2 hown' hgrow _
 have hb2 : w2.heap[b]? = some (.cells #[.pointer (some ⟨b, 0, none⟩), v] 180 (0, 0)) := by
   rw [hgrow.block b (by simp; omega) (fun q => hne q.symm), Lib.alloc_old w1 _ b hlt]; exact hbk
 have e0 : w2.cell? ⟨b, 0, none⟩ = some (.pointer (some ⟨b, 0, none⟩)) := by rw [Lib.cell_of_heap hb2]; rfl
 have e1 : w2.cell? ⟨b, 1, none⟩ = some v := by rw [Lib.cell_of_heap hb2]; rfl
 have f1 : w2.frozen? ⟨b, 1, none⟩ = false := Lib.frozen_of_heap hb2 1
 have hb3 : Below B w w2 := (hb1.alloc (by have := hb1.size; omega) _).grown hgrow (by have := hb1.size; simp; omega) (fun k hk => (World.ownsRow.lt hown k hk).1)
 have hown3 : w2.ownsRow B 5 1 v' (Lib.byteCells (l ++ [c])).length (Lib.byteCells (l ++ [c])) := by
   have e : Lib.byteCells (l ++ [c]) = Lib.byteCells l ++ [.int .u8 x] := by simp [Lib.byteCells, Hx.out]
   rw [e, List.length_append, HL.out]; exact hown'
 have hput := Lib.BuilderAt.put (T := 180) (e := 5) hB hb2 hown3 (by decide)
 obtain ⟨g, cap, rfl⟩ : ∃ g cap, v' = .slice (some ⟨g, 0, none⟩) (l.length + 1) cap := by
   rcases hown'.2 with ⟨_, h0⟩ | ⟨g, cap, cur, hv, _⟩
   · omega
   · exact ⟨g, cap, hv⟩
 clear hown hown' hown3 hgrow hbk d0 d1
 have Hput := Lib.hid hput
 clear hput
 go_wp2
 go_ret
 exact ⟨rfl, .inr Hput.out, hb3.setCell (p := ⟨b, 1, none⟩) hB _⟩
end

section
/- Chapter 1: the plain facts on numbers and bytes; nothing of the program but the row of uint8. -/
open Go.RowKit
def beB (m : Nat) : Nat → List UInt8
 | 0 => []
 | k + 1 => UInt8.ofNat (m / 256 ^ k % 256) :: beB m k
def encF (m wd : Nat) : List UInt8 := if m / 256 ^ wd = 0 then beB m wd else []
def cellsEF (m wd j : Nat) : List Value := (List.replicate (wd - j) (0 : UInt8) ++ beB m j).map byteV
def decB (l : List UInt8) : Nat := l.foldl (fun a b => a * 256 + b.toNat) 0
def vB (m : Nat) : List UInt8 := if m < 128 then [UInt8.ofNat m] else UInt8.ofNat (128 + m % 128) :: vB (m / 128)
def encV (n : Int) : List UInt8 := if inB n 0 562949953421311 then vB n.toNat else []
def numV : List UInt8 → Nat
 | [] => 0
 | b :: l => b.toNat % 128 + 128 * numV l
def okAt (l : List UInt8) (k : Nat) : Bool := decide (vB (numV (l.take k)) = l.take k)
def decVAux (l : List UInt8) (k : Nat) : Nat → Nat × Nat
 | 0 => (0, 0)
 | n + 1 => if okAt l k then (numV (l.take k), k) else decVAux l (k + 1) n
def decV (l : List UInt8) : Nat × Nat := decVAux l 1 (min 7 l.length)
def canV (n : Int) (t : List UInt8) : Int × Int := if encV n = t then (n, t.length) else (0, 0)
def hexTab : List UInt8 := [48, 49, 50, 51, 52, 53, 54, 55, 56, 57, 97, 98, 99, 100, 101, 102]
def hexD (k : Nat) : UInt8 := hexTab.getD k 0
def hex2 (b : UInt8) : List UInt8 := [hexD (b.toNat / 16), hexD (b.toNat % 16)]
def hexE (l : List UInt8) : List UInt8 := l.flatMap hex2
def fh (b : UInt8) : Int := Lib.indexByte hexTab b
def restIx (k : Nat) (b : UInt8) : Int := if Lib.indexByte (hexTab.drop k) b = -1 then -1 else k + Lib.indexByte (hexTab.drop k) b
def decH : List UInt8 → Option (List UInt8)
 | [] => some []
 | [_] => none
 | a :: b :: t => if fh a = -1 ∨ fh b = -1 then none else (decH t).map (UInt8.ofNat (16 * (fh a).toNat + (fh b).toNat) :: ·)
def restH (l acc : List UInt8) (i : Nat) : Option (List UInt8) := (decH (l.drop i)).map (acc ++ ·)
def resH (r : Option (List UInt8)) : Value := .tuple #[.string (str (r.getD [])), .bool r.isSome]
end

section
/- Chapter 1: contracts of FormatInt, in the model and in the program. -/
open Go.RowKit
theorem decDigits_snoc {u : Nat} (h : ¬ u < 10) : Lib.decDigits u = Lib.decDigits (u / 10) ++ [UInt8.ofNat (48 + u % 10)] := by
 rw [Lib.decDigits, dif_neg h]
def dpre (q : Nat) (acc : List UInt8) : List UInt8 := if q = 0 then acc else Lib.decDigits q ++ acc
theorem dpre_step {q : Nat} (h : q ≠ 0) (acc : List UInt8) : dpre q acc = dpre (q / 10) (UInt8.ofNat (48 + q % 10) :: acc) := by
 unfold dpre
 rw [if_neg h]
 by_cases hq : q < 10
 · rw [if_pos (by omega), Lib.decDigits_one hq, Nat.mod_eq_of_lt hq]; rfl
 · rw [if_neg (by omega), decDigits_snoc hq, List.append_assoc]; rfl
theorem digits_le (u : Nat) (h : u < 18446744073709551616) : (Lib.decDigits u).length ≤ 20 := by rw [Lib.decDigits_length]; exact Lib.nDigits_le20 u h
theorem dpre_len {q m : Nat} {acc : List UInt8} (H : dpre q acc = Lib.decDigits m) (h : m < 18446744073709551616) : acc.length ≤ 20 := by
 have h1 := digits_le m h
 rw [← H] at h1
 unfold dpre at h1
 split at h1
 · exact h1
 · rw [List.length_append] at h1; omega
theorem specFI_zero (w : World) :
   Calls Tryd.prog 59 #[.int .i64 0] w fun e w' => e = .returned (.string (str (Lib.itoa 0))) ∧ Below w.heap.size w w' := by
 go_enter Tryd.func59, Tryd.ntmps59
 go_wp2
 go_ret
 exact ⟨by simp [Lib.itoa, Lib.decDigits_one, str], Below.refl _ _⟩
set_option maxHeartbeats 800000 in
theorem specFI_pos (m : Nat) (h0 : 0 < m) (hm : (m : Int) ≤ 9223372036854775807) (w : World) :
   Calls Tryd.prog 59 #[.int .i64 m] w fun e w' => e = .returned (.string (str (Lib.decDigits m))) ∧ Below w.heap.size w w' := by
 have hz : ((m : Int) == 0) = false := by rw [beq_eq_false_iff_ne]; omega
 have hlt : decide ((m : Int) < 0) = false := by simp
 have hm2 : m < 18446744073709551616 := by omega
 have Hm2 := Lib.hid hm2
 clear hm2
 go_enter Tryd.func59, Tryd.ntmps59
 go_wp2
 go_loopw [3, 0, 5] (fun o v _ wr => ∃ (q : Nat) (acc : List UInt8), v = .int .i64 q ∧ o = .string (str acc) ∧ q ≤ m ∧ Hid (dpre q acc = Lib.decDigits m) ∧ Below w.heap.size w wr) (fun _ v _ _ => (intOf v).toNat)
 case atStart => exact ⟨m, [], rfl, rfl, Nat.le_refl _, show _ = _ by rw [dpre, if_neg (by omega), List.append_nil], Below.refl _ _⟩
 case round =>
   obtain ⟨q, acc, rfl, rfl, hq, Hq, hb⟩ := hrel
   by_cases hq0 : q = 0
   · have hE : ((q : Int) != 0) = false := by rw [bne_eq_false_iff_eq]; omega
     have hacc : acc = Lib.decDigits m := by rw [← Hq.out, dpre, if_pos hq0]
     have Hacc := Lib.hid hacc
     clear hacc hq0
     go_wp2
     go_ret
     exact ⟨by rw [← Hacc.out]; rfl, hb⟩
   · have hE : ((q : Int) != 0) = true := by rw [bne_iff_ne]; omega
     have hlen := dpre_len Hq.out Hm2.out
     have hnext := dpre_step hq0 acc
     have Hn := Lib.hid hnext
     have H0 := Lib.hid hq0
     obtain ⟨u, hu⟩ : ∃ u, u = UInt8.ofNat (48 + q % 10) := ⟨_, rfl⟩
     rw [← hu] at Hn
     have hcv := fun ww => run_conv_byte (P := Tryd.prog) ww 159 9 5 Tryd.underlying159 Tryd.underlying5 Tryd.underlying9 (48 + (q : Int) % 10) u (by rw [hu]; simp; omega)
     have hd : 0 ≤ (q : Int) % 10 := by omega
     have hsz : (str [u]).size + (str acc).size < 100 := by simp only [str_size, List.length_singleton]; omega
     clear hnext hq0 hu
     go_wp2
     go_roundw
     case rel => exact ⟨q / 10, u :: acc, by go_num, by rw [str_append]; rfl, by omega, show _ = _ by rw [← Hn.out, Hq.out], hb.alloc hb.size _⟩
     case measure => simp [intOf]; have := H0.out; omega
set_option maxHeartbeats 1600000 in
theorem specFI_neg (m : Nat) (h0 : 0 < m) (hm : (m : Int) ≤ 9223372036854775808) (w : World) :
   Calls Tryd.prog 59 #[.int .i64 (-(m : Int))] w fun e w' => e = .returned (.string (str (45 :: Lib.decDigits m))) ∧ Below w.heap.size w w' := by
 have hz : ((m : Int) == 0) = false := by rw [beq_eq_false_iff_ne]; omega
 have hz' : (-(m : Int) == 0) = false := by rw [beq_eq_false_iff_ne]; omega
 have hlt : decide (-(m : Int) < 0) = true := by simp; omega
 have hlt' : decide ((0 : Int) < m) = true := by simp; omega
 have hm2 : m < 18446744073709551616 := by omega
 have hm3 : m / 10 ≤ 922337203685477580 := by omega
 have Hm2 := Lib.hid hm2
 have Hm := Lib.hid hm
 clear hm2 hm
 go_enter Tryd.func59, Tryd.ntmps59
 go_wp2
 go_loopw [3, 0, 5] (fun o v _ wr => ∃ (q : Nat) (acc : List UInt8), v = .int .i64 (-(q : Int)) ∧ o = .string (str acc) ∧ q ≤ m ∧ Hid (dpre q acc = Lib.decDigits m) ∧ Below w.heap.size w wr) (fun _ v _ _ => (- intOf v).toNat)
 case atStart => exact ⟨m, [], rfl, rfl, Nat.le_refl _, show _ = _ by rw [dpre, if_neg (by omega), List.append_nil], Below.refl _ _⟩
 case round =>
   obtain ⟨q, acc, rfl, rfl, hq, Hq, hb⟩ := hrel
   by_cases hq0 : q = 0
   · have hE : (-(q : Int) != 0) = false := by rw [bne_eq_false_iff_eq]; omega
     have hE' : ((q : Int) != 0) = false := by rw [bne_eq_false_iff_eq]; omega
     have hacc : acc = Lib.decDigits m := by rw [← Hq.out, dpre, if_pos hq0]
     have hlen := dpre_len Hq.out Hm2.out
     have Hacc := Lib.hid hacc
     have hsz : (str [45]).size + (str acc).size < 100 := by simp only [str_size, List.length_singleton]; omega
     have hsz' : 1 + (str acc).size < 100 := by simp only [str_size]; omega
     clear hacc hq0
     go_wp2
     go_ret
     exact ⟨by rw [← Hacc.out, show 45 :: acc = [45] ++ acc from rfl, ← str_append]; rfl, hb⟩
   · have hE : (-(q : Int) != 0) = true := by rw [bne_iff_ne]; omega
     have hE' : ((q : Int) != 0) = true := by rw [bne_iff_ne]; omega
     have hlen := dpre_len Hq.out Hm2.out
     have hnext := dpre_step hq0 acc
     have H0 := Lib.hid hq0
     obtain ⟨u, hu⟩ : ∃ u, u = UInt8.ofNat (48 + q % 10) := ⟨_, rfl⟩
     rw [← hu] at hnext
     have Hn := Lib.hid hnext
     have hq10 : (q : Int) / 10 ≤ 922337203685477580 := by omega
     have hq0' : 0 ≤ (q : Int) / 10 := by omega
     have hsz : (str [u]).size + (str acc).size < 100 := by simp only [str_size, List.length_singleton]; omega
     clear hnext hq0
     by_cases hz10 : q % 10 = 0
     · have e0 : (q : Int) % 10 = 0 := by omega
       have hcv := fun ww => run_conv_byte (P := Tryd.prog) ww 159 9 5 Tryd.underlying159 Tryd.underlying5 Tryd.underlying9 48 u (by rw [hu, hz10]; rfl)
       clear hz10 hu
       go_wp2
       go_roundw
       case rel => exact ⟨q / 10, u :: acc, by go_num, by rw [str_append]; rfl, by omega, show _ = _ by rw [← Hn.out, Hq.out], hb.alloc hb.size _⟩
       case measure => simp [intOf]; have := H0.out; omega
     · have hd : 0 < (q : Int) % 10 := by omega
       have hd9 : (q : Int) % 10 ≤ 9 := by omega
       have hcv := fun ww => run_conv_byte (P := Tryd.prog) ww 159 9 5 Tryd.underlying159 Tryd.underlying5 Tryd.underlying9 (48 + (q : Int) % 10) u (by rw [hu]; simp; omega)
       clear hz10 hu
       go_wp2
       go_roundw
       case rel => exact ⟨q / 10, u :: acc, by go_num, by rw [str_append]; rfl, by omega, show _ = _ by rw [← Hn.out, Hq.out], hb.alloc hb.size _⟩
       case measure => simp [intOf]; have := H0.out; omega
theorem specFI (n : Int) (h0 : -9223372036854775808 ≤ n) (h1 : n ≤ 9223372036854775807) (w : World) :
   Calls Tryd.prog 59 #[.int .i64 n] w fun e w' => e = .returned (.string (str (Lib.itoa n))) ∧ Below w.heap.size w w' := by
 rcases Int.lt_trichotomy n 0 with h | h | h
 · obtain ⟨m, hm⟩ : ∃ m : Nat, n = -(m : Int) := ⟨n.natAbs, by omega⟩
   subst hm
   have e : Lib.itoa (-(m : Int)) = 45 :: Lib.decDigits m := by rw [Lib.itoa, if_pos h]; congr 2; omega
   rw [e]
   exact specFI_neg m (by omega) (by omega) w
 · subst h; exact specFI_zero w
 · obtain ⟨m, rfl⟩ := Int.eq_ofNat_of_zero_le (Int.le_of_lt h)
   have e : Lib.itoa (m : Int) = Lib.decDigits m := by rw [Lib.itoa, if_neg (by omega)]; rfl
   rw [e]
   exact specFI_pos m (by omega) h1 w
theorem grow_below (w : World) (k : Nat) (os : Array Obj) : Below w.heap.size w (Sort.grow (w.drewN k) os) :=
 ⟨rfl, rfl, rfl, by simp [Sort.grow, World.drewN], fun j hj => by
   show (w.heap ++ os)[j]? = w.heap[j]?
   rw [Array.getElem?_append_left hj]⟩
theorem implFI (n : Int) (h0 : -9223372036854775808 ≤ n) (h1 : n ≤ 9223372036854775807) (w : World) (htab : Lib.TabIs Tryd.prog w "internal/strconv.uint64pow10" .u64 Lib.pow10Tab) :
   Calls Tryd.prog 109 #[.int .i64 n] w fun e w' => e = .returned (.string (str (Lib.itoa n))) ∧ Below w.heap.size w w' := by
 have H := Lib.hid htab
 clear htab
 go_enter Tryd.func109, Tryd.ntmps109
 go_wp2_with fail
 refine (Tryd.strconv_Itoa n h0 h1 _ H.out).mono ?_
 rintro e w1 ⟨rfl, k, os, hw⟩
 have hb : Below w.heap.size w w1 := by rw [hw]; exact grow_below w k os
 clear hw
 go_wp2
 go_ret
 exact ⟨rfl, hb⟩
end

section
/- math/bits.TrailingZeros of 64 bits, by the table in its variable. -/
open Go Go.Proofs Go.RowKit
namespace Ab
theorem gTz : Tryd.prog.globalNamed "math/bits.deBruijn64tab" = some 3 := by kernel_rfl
theorem tTz : (Tryd.prog.globals[3]?).map (·.type) = some 220 := by kernel_rfl
theorem tz_eq : (Rows.laid_math_bits_deBruijn64tab : DataW Unit) = Lib.tabData .u8 tzTab := by
 unfold Rows.laid_math_bits_deBruijn64tab Lib.tabData tzTab
 rfl
theorem tz_of_laid {W : World} {a : String × DataW Unit} {r : List (String × DataW Unit)} (h : laidMet Tryd.prog (a :: ("math/bits.deBruijn64tab", Rows.laid_math_bits_deBruijn64tab) :: r) W) : TabG 3 .u8 tzTab W := by
 have h2 := h.tail
 rw [tz_eq] at h2
 have h3 := Lib.tabIs_of_head gTz tTz Tryd.underlying220 Tryd.underlying5 (by kernel_rfl) (by kernel_rfl) h2
 exact fun j hj => h3.cell gTz j hj
theorem gPowT : Tryd.prog.globalNamed "internal/strconv.uint64pow10" = some 1 := by kernel_rfl
theorem tPowT : (Tryd.prog.globals[1]?).map (·.type) = some 213 := by kernel_rfl
theorem pow_eqT : (Rows.laid_internal_strconv_uint64pow10 : DataW Unit) = Lib.tabData .u64 Lib.pow10Tab := by
 unfold Rows.laid_internal_strconv_uint64pow10 Lib.tabData Lib.pow10Tab
 simp [List.range, List.range.loop]
theorem pow_of_laid {W : World} {r : List (String × DataW Unit)} (h : laidMet Tryd.prog (("internal/strconv.uint64pow10", Rows.laid_internal_strconv_uint64pow10) :: r) W) : Lib.TabIs Tryd.prog W "internal/strconv.uint64pow10" .u64 Lib.pow10Tab := by
 rw [pow_eqT] at h
 exact Lib.tabIs_of_head gPowT tPowT Tryd.underlying213 Tryd.underlying207 (by kernel_rfl) (by kernel_rfl) h
theorem glob_of_laid {W : World} {a : String × DataW Unit} {r : List (String × DataW Unit)} (h : laidMet Tryd.prog (a :: ("math/bits.deBruijn64tab", Rows.laid_math_bits_deBruijn64tab) :: ("internal/strconv.uint64pow10", Rows.laid_internal_strconv_uint64pow10) :: r) W) : Glob W :=
 ⟨tz_of_laid h, pow_of_laid h.tail.tail⟩
end Ab
end

section
/- Texts in the layer: joined texts. -/
open Go Go.Proofs Go.RowKit
namespace Ab
theorem addOk (a b : ByteArray) (h : a.size + b.size ≤ 4611686018427387904) : (((a.size + b.size : Nat) : Int) > IntKind.i64.max) = False := by
 apply eq_false
 have : IntKind.i64.max = 9223372036854775807 := by decide
 omega
def encT (x : ByteArray) : List D := [.v (.string x)]
def jn (sep : ByteArray) : List ByteArray → ByteArray
 | [] => ⟨#[]⟩
 | [x] => x
 | x :: y :: l => x ++ sep ++ jn sep (y :: l)
theorem jn_snoc (sep x : ByteArray) : ∀ (l : List ByteArray), l ≠ [] → jn sep (l ++ [x]) = jn sep l ++ sep ++ x
 | [], h => (h rfl).elim
 | [y], _ => rfl
 | y :: z :: l, _ => by
   have ih := jn_snoc sep x (z :: l) (by simp)
   show jn sep (y :: z :: (l ++ [x])) = _
   rw [jn, show jn sep (z :: (l ++ [x])) = jn sep (z :: l) ++ sep ++ x from ih, jn]
   simp only [ByteArray.append_assoc]
theorem jn_size {sep : ByteArray} {m : Nat} : ∀ (l : List ByteArray), (∀ x, x ∈ l → x.size ≤ m) → (jn sep l).size ≤ l.length * (m + sep.size)
 | [], _ => by rw [jn]; exact Nat.zero_le _
 | [x], h => by
   have := h x (by simp)
   rw [jn, List.length_singleton, Nat.one_mul]
   omega
 | x :: y :: l, h => by
   have ih := jn_size (sep := sep) (y :: l) (fun z hz => h z (List.mem_cons_of_mem _ hz))
   have := h x (by simp)
   rw [jn, ByteArray.size_append, ByteArray.size_append, List.length_cons, Nat.succ_mul]
   omega
theorem jn_lib (sep : ByteArray) : ∀ (l : List ByteArray), (⟨(Lib.join (l.map (·.data.toList)) sep.data.toList).toArray⟩ : ByteArray) = jn sep l
 | [] => rfl
 | [x] => by
   rw [List.map_cons, List.map_nil, Lib.join_one, jn]
 | x :: y :: l => by
   have ih := jn_lib sep (y :: l)
   rw [jn, ← ih]
   apply ByteArray.ext
   rw [ByteArray.data_append, ByteArray.data_append, List.map_cons, Lib.join_cons, List.map_cons, Lib.join_cons]
   simp [Lib.joinTail]
theorem jn_step (sep : ByteArray) {α : Type} (f : α → ByteArray) (l : List α) {i : Nat} (h : i < l.length) : jn sep ((l.take (i + 1)).map f) = if i = 0 then f l[i] else jn sep ((l.take i).map f) ++ sep ++ f l[i] := by
 rw [List.take_succ_eq_append_getElem h, List.map_append, List.map_cons, List.map_nil]
 by_cases hi : i = 0
 · subst hi
   rw [if_pos rfl]
   rfl
 · rw [if_neg hi, jn_snoc]
   intro e
   have h2 := congrArg List.length e
   rw [List.length_map, List.length_take, List.length_nil] at h2
   omega
def accB {α : Type} (pre sep : ByteArray) (f : α → ByteArray) (l : List α) (i : Nat) : ByteArray := pre ++ jn sep ((l.take i).map f)
theorem bApp_nil (x : ByteArray) : x ++ ⟨#[]⟩ = x := ByteArray.append_empty
theorem bNap (x : ByteArray) : ⟨#[]⟩ ++ x = x := ByteArray.empty_append
theorem accB_zero {α : Type} (pre sep : ByteArray) (f : α → ByteArray) (l : List α) : accB pre sep f l 0 = pre := bApp_nil pre
theorem accB_one {α : Type} (pre sep : ByteArray) (f : α → ByteArray) (l : List α) (h : 0 < l.length) : accB pre sep f l 1 = pre ++ f l[0] := by
 unfold accB
 rw [jn_step sep f l h, if_pos rfl]
theorem accB_step {α : Type} (pre sep : ByteArray) (f : α → ByteArray) (l : List α) {i : Nat} (h : i < l.length) (hi : i ≠ 0) : accB pre sep f l (i + 1) = accB pre sep f l i ++ sep ++ f l[i] := by
 unfold accB
 rw [jn_step sep f l h, if_neg hi]
 simp only [ByteArray.append_assoc]
theorem accB_end {α : Type} (pre sep : ByteArray) (f : α → ByteArray) (l : List α) : accB pre sep f l l.length = pre ++ jn sep (l.map f) := by
 unfold accB
 rw [List.take_length]
theorem accB_size {α : Type} (pre sep : ByteArray) (f : α → ByteArray) (l : List α) (i : Nat) {m : Nat} (hi : i ≤ l.length) (hm : ∀ x, x ∈ l → (f x).size ≤ m) : (accB pre sep f l i).size ≤ pre.size + i * (m + sep.size) := by
 unfold accB
 rw [ByteArray.size_append]
 have := jn_size (sep := sep) (m := m) ((l.take i).map f) (fun x hx => by
   obtain ⟨y, hy, rfl⟩ := List.mem_map.1 hx
   exact hm y (List.mem_of_mem_take hy))
 rw [List.length_map, List.length_take, Nat.min_eq_left hi] at this
 omega
end Ab
end

section
/- Texts in the layer: numbers as text. -/
open Go Go.Proofs Go.RowKit
namespace Ab
def itoaB (n : Int) : ByteArray := str (Lib.itoa n)
theorem itoaB_size {n : Int} (h : inR n) : (itoaB n).size ≤ 21 := by
 unfold itoaB
 rw [str_size]
 exact Lib.itoa_length_le n h.1 h.2
theorem specFormatInt_a {n : Int} (h : inR n) : AC Tryd.prog 59 [.d (.v (.int .i64 n))] (.d (.v (.string (itoaB n)))) :=
 AC.plain Tryd.func59 rfl (by decide) rfl (fun w K cs ov hK hr => by
   simp only [RdSs] at hr
   obtain ⟨v0, _, rfl, q0, rfl⟩ := hr
   obtain rfl := q0.int
   exact specFI n h.1 h.2 w)
theorem implFormatInt_a {n : Int} (h : inR n) : AC Tryd.prog 109 [.d (.v (.int .i64 n))] (.d (.v (.string (itoaB n)))) :=
 AC.plainG Tryd.func109 rfl (by decide) rfl (fun w K cs ov hg hK hr => by
   simp only [RdSs] at hr
   obtain ⟨v0, _, rfl, q0, rfl⟩ := hr
   obtain rfl := q0.int
   exact implFI n h.1 h.2 w hg.pow)
end Ab
end

section
/- Terms, relations, constraints as text. -/
open Go Go.Proofs Go.RowKit
namespace Ab
def relS (x : Rel) : S := .a [.d (.v (.string x.name)), .d (.v (.int .i64 x.arity)), .d (.v (.int .i64 x.key))]
theorem rel_cut {x : Rel} (g : eRel.good x) {w : World} {K : Nat → Nat → Prop} {ov : Nat → Value} {v : Value} (hK : ∀ b o, K b o → b < w.heap.size) (hr : RdS w (ghA K ov) (relS x) v) :
   v = .agg #[.string x.name, .int .i64 x.arity, .int .i64 x.key] ∧ At cRel w x [.string x.name, .int .i64 x.arity, .int .i64 x.key] := by
 obtain ⟨vs, rfl, h⟩ := eRel.atA (x := x) g hK hr
 obtain ⟨rfl, h⟩ := cRel_open h
 exact ⟨rfl, h⟩
theorem implIsValidRelation_a {x : Rel} (g : eRel.good x) : AC Tryd.prog 113 [relS x] (.d (.v (.bool (validRel x)))) :=
 AC.plain Tryd.func113 rfl (by decide) rfl (fun w K cs ov hK hr => by
   simp only [RdSs] at hr
   obtain ⟨v0, _, rfl, q0, rfl⟩ := hr
   obtain ⟨rfl, h⟩ := rel_cut g hK q0
   exact implIsValidRelation_c h)
theorem validRel_facts {x : Rel} (h : validRel x = true) : x.name.size = 1 ∧ inR x.key ∧ inR x.arity := by
 unfold validRel inB at h
 simp only [Bool.and_eq_true, decide_eq_true_eq] at h
 refine ⟨?_, ⟨by omega, by omega⟩, ⟨by omega, by omega⟩⟩
 apply Decidable.byContradiction
 intro hn
 rw [validName_not hn] at h
 exact absurd h.1 (by simp)
def relB (x : Rel) : ByteArray := if validRel x = true then x.name ++ itoaB x.key ++ ⟨#[47]⟩ ++ itoaB x.arity else ⟨#[]⟩
theorem relFmt {x : Rel} (hd : validRel x = true) : (((x.name.size + (itoaB x.key).size : Nat) : Int) > IntKind.i64.max) = False ∧ ((((x.name ++ itoaB x.key).size + (⟨#[47]⟩ : ByteArray).size : Nat) : Int) > IntKind.i64.max) = False ∧ ((((x.name ++ itoaB x.key ++ ⟨#[47]⟩).size + (itoaB x.arity).size : Nat) : Int) > IntKind.i64.max) = False := by
 obtain ⟨h1, h2, h3⟩ := validRel_facts hd
 have h4 := itoaB_size h2
 have h5 := itoaB_size h3
 have e1 : (⟨#[47]⟩ : ByteArray).size = 1 := rfl
 exact ⟨addOk _ _ (by omega), addOk _ _ (by rw [ByteArray.size_append]; omega), addOk _ _ (by rw [ByteArray.size_append, ByteArray.size_append]; omega)⟩
theorem implFormatRelation_a {x : Rel} (g : eRel.good x) : AC Tryd.prog 75 [relS x] (.d (.v (.string (relB x)))) := by
 have hc := implIsValidRelation_a g
 unfold relB
 unfold relS at hc ⊢
 rcases Bool.eq_false_or_eq_true (validRel x) with hd | hd
 · obtain ⟨a1, a2, a3⟩ := relFmt hd
   obtain ⟨_, h2, h3⟩ := validRel_facts hd
   have hc2 := implFormatInt_a h2
   have hc3 := implFormatInt_a h3
   rw [hd] at hc ⊢
   rw [if_pos rfl]
   refine AC.intro Tryd.func75 rfl (by decide) (by simp [S.res, S.ress]) (by simp [S.os, S.oss]) (by simp [S.wfs, S.wf, dbS]) (by simp [Tryd.f75]) ?_; rw [Tryd.ntmps75]
   repeat (first | refine aq ?_ | refine ap (by rfl : apartB 0 _ _ = true) ?_ | refine ak ?_ | refine ab ?_ | refine al ?_ | ((first | refine ar ?_ | refine ad ty_mix (by kernel_rfl) ?_ | refine ac ?_ | refine ae ?_ | with_reducible refine Later.mk ?_); simp only [evD, evL, iteL, aX, St.said, St.asked, evStep, evOp, evP, St.init, St.app, srcStep, kill, setMany, loadS, fieldS, buildS, toks, Fin, upd_app, Array.isEmpty, reduceLT, reduceAdd, reduceMul, reduceLeDiff, reduceSub, reduceEqDiff, reduceCtorEq, reduceIte, ↓Opt.is, ↓Opt.no, ↓Asks.yes, ↓Asks.no, tyL, encL, asB]))
   refine ⟨_, hc, ?_⟩; (repeat (first | refine ap (by rfl : apartB 0 _ _ = true) ?_ | refine ap (by simp [osL, D.flat]) ?_)); repeat (first | refine aq ?_ | refine ap (by rfl : apartB 0 _ _ = true) ?_ | refine ak ?_ | refine ab ?_ | refine al ?_ | ((first | refine ar ?_ | refine ad ty_mix (by kernel_rfl) ?_ | refine ac ?_ | refine ae ?_ | with_reducible refine Later.mk ?_); simp only [evD, evL, iteL, aX, St.said, St.asked, evStep, evOp, evP, St.init, St.app, srcStep, kill, setMany, loadS, fieldS, buildS, toks, Fin, upd_app, Array.isEmpty, reduceLT, reduceAdd, reduceMul, reduceLeDiff, reduceSub, reduceEqDiff, reduceCtorEq, reduceIte, ↓Opt.is, ↓Opt.no, ↓Asks.yes, ↓Asks.no, tyL, encL, asB]))
   refine ⟨_, hc2, ?_⟩; (repeat (first | refine ap (by rfl : apartB 0 _ _ = true) ?_ | refine ap (by simp [osL, D.flat]) ?_)); repeat (first | refine aq ?_ | refine ap (by rfl : apartB 0 _ _ = true) ?_ | refine ak ?_ | refine ab ?_ | refine al ?_ | ((first | refine ar ?_ | refine ad ty_mix (by kernel_rfl) ?_ | refine ac ?_ | refine ae ?_ | with_reducible refine Later.mk ?_); simp only [evD, evL, iteL, aX, St.said, St.asked, evStep, evOp, evP, St.init, St.app, srcStep, kill, setMany, loadS, fieldS, buildS, toks, Fin, upd_app, Array.isEmpty, reduceLT, reduceAdd, reduceMul, reduceLeDiff, reduceSub, reduceEqDiff, reduceCtorEq, reduceIte, ↓Opt.is, ↓Opt.no, ↓Asks.yes, ↓Asks.no, tyL, encL, a1, a2, a3, asB]))
   refine ⟨_, hc3, ?_⟩; (repeat (first | refine ap (by rfl : apartB 0 _ _ = true) ?_ | refine ap (by simp [osL, D.flat]) ?_)); repeat (first | refine aq ?_ | refine ap (by rfl : apartB 0 _ _ = true) ?_ | refine ak ?_ | refine ab ?_ | refine al ?_ | ((first | refine ar ?_ | refine ad ty_mix (by kernel_rfl) ?_ | refine ac ?_ | refine ae ?_ | with_reducible refine Later.mk ?_); simp only [evD, evL, iteL, aX, St.said, St.asked, evStep, evOp, evP, St.init, St.app, srcStep, kill, setMany, loadS, fieldS, buildS, toks, Fin, upd_app, Array.isEmpty, reduceLT, reduceAdd, reduceMul, reduceLeDiff, reduceSub, reduceEqDiff, reduceCtorEq, reduceIte, ↓Opt.is, ↓Opt.no, ↓Asks.yes, ↓Asks.no, tyL, encL, a1, a2, a3, asB]))
   refine Ab.ret ?_; simp only [evD, evL, iteL, aX, St.said, St.asked, evStep, evOp, evP, St.init, St.app, srcStep, kill, setMany, loadS, fieldS, buildS, toks, Fin, upd_app, Array.isEmpty, reduceLT, reduceAdd, reduceMul, reduceLeDiff, reduceSub, reduceEqDiff, reduceCtorEq, reduceIte, ↓Opt.is, ↓Opt.no, ↓Asks.yes, ↓Asks.no, tyL, List.nodup_cons, encL, Tryd.f75]
 · rw [hd] at hc ⊢
   rw [if_neg (by simp)]
   refine AC.intro Tryd.func75 rfl (by decide) (by simp [S.res, S.ress]) (by simp [S.os, S.oss]) (by simp [S.wfs, S.wf, dbS]) (by simp [Tryd.f75]) ?_; rw [Tryd.ntmps75]
   repeat (first | refine aq ?_ | refine ap (by rfl : apartB 0 _ _ = true) ?_ | refine ak ?_ | refine ab ?_ | refine al ?_ | ((first | refine ar ?_ | refine ad ty_mix (by kernel_rfl) ?_ | refine ac ?_ | refine ae ?_ | with_reducible refine Later.mk ?_); simp only [evD, evL, iteL, aX, St.said, St.asked, evStep, evOp, evP, St.init, St.app, srcStep, kill, setMany, loadS, fieldS, buildS, toks, Fin, upd_app, Array.isEmpty, reduceLT, reduceAdd, reduceMul, reduceLeDiff, reduceSub, reduceEqDiff, reduceCtorEq, reduceIte, ↓Opt.is, ↓Opt.no, ↓Asks.yes, ↓Asks.no, tyL, encL, asB]))
   refine ⟨_, hc, ?_⟩; (repeat (first | refine ap (by rfl : apartB 0 _ _ = true) ?_ | refine ap (by simp [osL, D.flat]) ?_)); repeat (first | refine aq ?_ | refine ap (by rfl : apartB 0 _ _ = true) ?_ | refine ak ?_ | refine ab ?_ | refine al ?_ | ((first | refine ar ?_ | refine ad ty_mix (by kernel_rfl) ?_ | refine ac ?_ | refine ae ?_ | with_reducible refine Later.mk ?_); simp only [evD, evL, iteL, aX, St.said, St.asked, evStep, evOp, evP, St.init, St.app, srcStep, kill, setMany, loadS, fieldS, buildS, toks, Fin, upd_app, Array.isEmpty, reduceLT, reduceAdd, reduceMul, reduceLeDiff, reduceSub, reduceEqDiff, reduceCtorEq, reduceIte, ↓Opt.is, ↓Opt.no, ↓Asks.yes, ↓Asks.no, tyL, encL, asB]))
   refine Ab.ret ?_; simp only [evD, evL, iteL, aX, St.said, St.asked, evStep, evOp, evP, St.init, St.app, srcStep, kill, setMany, loadS, fieldS, buildS, toks, Fin, upd_app, Array.isEmpty, reduceLT, reduceAdd, reduceMul, reduceLeDiff, reduceSub, reduceEqDiff, reduceCtorEq, reduceIte, ↓Opt.is, ↓Opt.no, ↓Asks.yes, ↓Asks.no, tyL, List.nodup_cons, encL, Tryd.f75]
theorem isValue_a (v : Int) : AC Tryd.prog 140 [.d (.v (.int .i64 v))] (.d (.v (.bool (inB v 0 9)))) := by
 refine AC.intro Tryd.func140 rfl (by decide) (by simp [S.res, S.ress]) (by simp [S.os, S.oss]) (by simp [S.wfs, S.wf, dbS]) (by simp [Tryd.f140]) ?_; rw [Tryd.ntmps140]
 unfold inB
 by_cases h1 : v ≥ 0
 · have h2 : 0 ≤ v := h1
   repeat (first | refine aq ?_ | refine ap (by rfl : apartB 0 _ _ = true) ?_ | refine ak ?_ | refine ab ?_ | refine al ?_ | ((first | refine ar ?_ | refine ad ty_mix (by kernel_rfl) ?_ | refine ac ?_ | refine ae ?_ | with_reducible refine Later.mk ?_); simp only [evD, evL, iteL, aX, St.said, St.asked, evStep, evOp, evP, St.init, St.app, srcStep, kill, setMany, loadS, fieldS, buildS, toks, Fin, upd_app, Array.isEmpty, reduceLT, reduceAdd, reduceMul, reduceLeDiff, reduceSub, reduceEqDiff, reduceCtorEq, reduceIte, ↓Opt.is, ↓Opt.no, ↓Asks.yes, ↓Asks.no, tyL, encL, h1, asB]))
   refine Ab.ret ?_; simp only [evD, evL, iteL, aX, St.said, St.asked, evStep, evOp, evP, St.init, St.app, srcStep, kill, setMany, loadS, fieldS, buildS, toks, Fin, upd_app, Array.isEmpty, reduceLT, reduceAdd, reduceMul, reduceLeDiff, reduceSub, reduceEqDiff, reduceCtorEq, reduceIte, ↓Opt.is, ↓Opt.no, ↓Asks.yes, ↓Asks.no, tyL, List.nodup_cons, encL, Tryd.f140, h1, h2]
 · have h2 : ¬ 0 ≤ v := h1
   repeat (first | refine aq ?_ | refine ap (by rfl : apartB 0 _ _ = true) ?_ | refine ak ?_ | refine ab ?_ | refine al ?_ | ((first | refine ar ?_ | refine ad ty_mix (by kernel_rfl) ?_ | refine ac ?_ | refine ae ?_ | with_reducible refine Later.mk ?_); simp only [evD, evL, iteL, aX, St.said, St.asked, evStep, evOp, evP, St.init, St.app, srcStep, kill, setMany, loadS, fieldS, buildS, toks, Fin, upd_app, Array.isEmpty, reduceLT, reduceAdd, reduceMul, reduceLeDiff, reduceSub, reduceEqDiff, reduceCtorEq, reduceIte, ↓Opt.is, ↓Opt.no, ↓Asks.yes, ↓Asks.no, tyL, encL, h1, asB]))
   refine Ab.ret ?_; simp only [evD, evL, iteL, aX, St.said, St.asked, evStep, evOp, evP, St.init, St.app, srcStep, kill, setMany, loadS, fieldS, buildS, toks, Fin, upd_app, Array.isEmpty, reduceLT, reduceAdd, reduceMul, reduceLeDiff, reduceSub, reduceEqDiff, reduceCtorEq, reduceIte, ↓Opt.is, ↓Opt.no, ↓Asks.yes, ↓Asks.no, tyL, List.nodup_cons, encL, Tryd.f140, h1, h2]
theorem wrapM1 {t : Int} (h : inR t) : IntKind.i64.wrap (-1 - t) = -1 - t := by
 obtain ⟨h1, h2⟩ := h
 rw [IntKind.wrap_i64]
 omega
theorem constantTerm_a {t : Int} (h : inR t) : AC Tryd.prog 151 [.d (.v (.int .i64 t))] (.d (.v (.int .i64 (-1 - t)))) := by
 have hw := wrapM1 h
 refine AC.intro Tryd.func151 rfl (by decide) (by simp [S.res, S.ress]) (by simp [S.os, S.oss]) (by simp [S.wfs, S.wf, dbS]) (by simp [Tryd.f151]) ?_; rw [Tryd.ntmps151]
 repeat (first | refine aq ?_ | refine ap (by rfl : apartB 0 _ _ = true) ?_ | refine ak ?_ | refine ab ?_ | refine al ?_ | ((first | refine ar ?_ | refine ad ty_mix (by kernel_rfl) ?_ | refine ac ?_ | refine ae ?_ | with_reducible refine Later.mk ?_); simp only [evD, evL, iteL, aX, St.said, St.asked, evStep, evOp, evP, St.init, St.app, srcStep, kill, setMany, loadS, fieldS, buildS, toks, Fin, upd_app, Array.isEmpty, reduceLT, reduceAdd, reduceMul, reduceLeDiff, reduceSub, reduceEqDiff, reduceCtorEq, reduceIte, ↓Opt.is, ↓Opt.no, ↓Asks.yes, ↓Asks.no, tyL, encL, hw, asB]))
 refine Ab.ret ?_; simp only [evD, evL, iteL, aX, St.said, St.asked, evStep, evOp, evP, St.init, St.app, srcStep, kill, setMany, loadS, fieldS, buildS, toks, Fin, upd_app, Array.isEmpty, reduceLT, reduceAdd, reduceMul, reduceLeDiff, reduceSub, reduceEqDiff, reduceCtorEq, reduceIte, ↓Opt.is, ↓Opt.no, ↓Asks.yes, ↓Asks.no, tyL, List.nodup_cons, encL, Tryd.f151]
theorem implTermValue_a {t : Int} (h : inR t) : AC Tryd.prog 128 [.d (.v (.int .i64 t))] (.t [.d (.v (.int .i64 (termVal t))), .d (.v (.bool (termOk t)))]) := by
 have hc := constantTerm_a h
 have hc2 := isValue_a (-1 - t)
 unfold termVal termOk
 rcases Bool.eq_false_or_eq_true (inB (-1 - t) 0 9) with hd | hd <;> rw [hd] at hc2 ⊢
 · rw [if_pos rfl]
   refine AC.intro Tryd.func128 rfl (by decide) (by simp [S.res, S.ress]) (by simp [S.os, S.oss]) (by simp [S.wfs, S.wf, dbS]) (by simp [Tryd.f128]) ?_; rw [Tryd.ntmps128]
   repeat (first | refine aq ?_ | refine ap (by rfl : apartB 0 _ _ = true) ?_ | refine ak ?_ | refine ab ?_ | refine al ?_ | ((first | refine ar ?_ | refine ad ty_mix (by kernel_rfl) ?_ | refine ac ?_ | refine ae ?_ | with_reducible refine Later.mk ?_); simp only [evD, evL, iteL, aX, St.said, St.asked, evStep, evOp, evP, St.init, St.app, srcStep, kill, setMany, loadS, fieldS, buildS, toks, Fin, upd_app, Array.isEmpty, reduceLT, reduceAdd, reduceMul, reduceLeDiff, reduceSub, reduceEqDiff, reduceCtorEq, reduceIte, ↓Opt.is, ↓Opt.no, ↓Asks.yes, ↓Asks.no, tyL, encL, asB]))
   refine ⟨_, hc, ?_⟩; (repeat (first | refine ap (by rfl : apartB 0 _ _ = true) ?_ | refine ap (by simp [osL, D.flat]) ?_)); repeat (first | refine aq ?_ | refine ap (by rfl : apartB 0 _ _ = true) ?_ | refine ak ?_ | refine ab ?_ | refine al ?_ | ((first | refine ar ?_ | refine ad ty_mix (by kernel_rfl) ?_ | refine ac ?_ | refine ae ?_ | with_reducible refine Later.mk ?_); simp only [evD, evL, iteL, aX, St.said, St.asked, evStep, evOp, evP, St.init, St.app, srcStep, kill, setMany, loadS, fieldS, buildS, toks, Fin, upd_app, Array.isEmpty, reduceLT, reduceAdd, reduceMul, reduceLeDiff, reduceSub, reduceEqDiff, reduceCtorEq, reduceIte, ↓Opt.is, ↓Opt.no, ↓Asks.yes, ↓Asks.no, tyL, encL, asB]))
   refine ⟨_, hc2, ?_⟩; (repeat (first | refine ap (by rfl : apartB 0 _ _ = true) ?_ | refine ap (by simp [osL, D.flat]) ?_)); repeat (first | refine aq ?_ | refine ap (by rfl : apartB 0 _ _ = true) ?_ | refine ak ?_ | refine ab ?_ | refine al ?_ | ((first | refine ar ?_ | refine ad ty_mix (by kernel_rfl) ?_ | refine ac ?_ | refine ae ?_ | with_reducible refine Later.mk ?_); simp only [evD, evL, iteL, aX, St.said, St.asked, evStep, evOp, evP, St.init, St.app, srcStep, kill, setMany, loadS, fieldS, buildS, toks, Fin, upd_app, Array.isEmpty, reduceLT, reduceAdd, reduceMul, reduceLeDiff, reduceSub, reduceEqDiff, reduceCtorEq, reduceIte, ↓Opt.is, ↓Opt.no, ↓Asks.yes, ↓Asks.no, tyL, encL, asB]))
   refine Ab.ret ?_; simp only [evD, evL, iteL, aX, St.said, St.asked, evStep, evOp, evP, St.init, St.app, srcStep, kill, setMany, loadS, fieldS, buildS, toks, Fin, upd_app, Array.isEmpty, reduceLT, reduceAdd, reduceMul, reduceLeDiff, reduceSub, reduceEqDiff, reduceCtorEq, reduceIte, ↓Opt.is, ↓Opt.no, ↓Asks.yes, ↓Asks.no, tyL, List.nodup_cons, encL, Tryd.f128]
 · rw [if_neg (by simp)]
   refine AC.intro Tryd.func128 rfl (by decide) (by simp [S.res, S.ress]) (by simp [S.os, S.oss]) (by simp [S.wfs, S.wf, dbS]) (by simp [Tryd.f128]) ?_; rw [Tryd.ntmps128]
   repeat (first | refine aq ?_ | refine ap (by rfl : apartB 0 _ _ = true) ?_ | refine ak ?_ | refine ab ?_ | refine al ?_ | ((first | refine ar ?_ | refine ad ty_mix (by kernel_rfl) ?_ | refine ac ?_ | refine ae ?_ | with_reducible refine Later.mk ?_); simp only [evD, evL, iteL, aX, St.said, St.asked, evStep, evOp, evP, St.init, St.app, srcStep, kill, setMany, loadS, fieldS, buildS, toks, Fin, upd_app, Array.isEmpty, reduceLT, reduceAdd, reduceMul, reduceLeDiff, reduceSub, reduceEqDiff, reduceCtorEq, reduceIte, ↓Opt.is, ↓Opt.no, ↓Asks.yes, ↓Asks.no, tyL, encL, asB]))
   refine ⟨_, hc, ?_⟩; (repeat (first | refine ap (by rfl : apartB 0 _ _ = true) ?_ | refine ap (by simp [osL, D.flat]) ?_)); repeat (first | refine aq ?_ | refine ap (by rfl : apartB 0 _ _ = true) ?_ | refine ak ?_ | refine ab ?_ | refine al ?_ | ((first | refine ar ?_ | refine ad ty_mix (by kernel_rfl) ?_ | refine ac ?_ | refine ae ?_ | with_reducible refine Later.mk ?_); simp only [evD, evL, iteL, aX, St.said, St.asked, evStep, evOp, evP, St.init, St.app, srcStep, kill, setMany, loadS, fieldS, buildS, toks, Fin, upd_app, Array.isEmpty, reduceLT, reduceAdd, reduceMul, reduceLeDiff, reduceSub, reduceEqDiff, reduceCtorEq, reduceIte, ↓Opt.is, ↓Opt.no, ↓Asks.yes, ↓Asks.no, tyL, encL, asB]))
   refine ⟨_, hc2, ?_⟩; (repeat (first | refine ap (by rfl : apartB 0 _ _ = true) ?_ | refine ap (by simp [osL, D.flat]) ?_)); repeat (first | refine aq ?_ | refine ap (by rfl : apartB 0 _ _ = true) ?_ | refine ak ?_ | refine ab ?_ | refine al ?_ | ((first | refine ar ?_ | refine ad ty_mix (by kernel_rfl) ?_ | refine ac ?_ | refine ae ?_ | with_reducible refine Later.mk ?_); simp only [evD, evL, iteL, aX, St.said, St.asked, evStep, evOp, evP, St.init, St.app, srcStep, kill, setMany, loadS, fieldS, buildS, toks, Fin, upd_app, Array.isEmpty, reduceLT, reduceAdd, reduceMul, reduceLeDiff, reduceSub, reduceEqDiff, reduceCtorEq, reduceIte, ↓Opt.is, ↓Opt.no, ↓Asks.yes, ↓Asks.no, tyL, encL, asB]))
   refine Ab.ret ?_; simp only [evD, evL, iteL, aX, St.said, St.asked, evStep, evOp, evP, St.init, St.app, srcStep, kill, setMany, loadS, fieldS, buildS, toks, Fin, upd_app, Array.isEmpty, reduceLT, reduceAdd, reduceMul, reduceLeDiff, reduceSub, reduceEqDiff, reduceCtorEq, reduceIte, ↓Opt.is, ↓Opt.no, ↓Asks.yes, ↓Asks.no, tyL, List.nodup_cons, encL, Tryd.f128]
theorem specTermValue_a {t : Int} (h : inR t) : AC Tryd.prog 95 [.d (.v (.int .i64 t))] (.t [.d (.v (.int .i64 (termVal t))), .d (.v (.bool (termOk t)))]) := by
 have hw := wrapM1 h
 have hc2 := in_b (-1 - t) 0 9
 have hI : 0 ≤ t → inB (-1 - t) 0 9 = false := by unfold inB; intro h; simp; omega
 unfold termVal termOk
 by_cases h0 : 0 ≤ t
 · have h1 : decide (t ≥ 0) = true := decide_eq_true h0
   rw [hI h0, if_neg (by simp)]
   refine AC.intro Tryd.func95 rfl (by decide) (by simp [S.res, S.ress]) (by simp [S.os, S.oss]) (by simp [S.wfs, S.wf, dbS]) (by simp [Tryd.f95]) ?_; rw [Tryd.ntmps95]
   repeat (first | refine aq ?_ | refine ap (by rfl : apartB 0 _ _ = true) ?_ | refine ak ?_ | refine ab ?_ | refine al ?_ | ((first | refine ar ?_ | refine ad ty_mix (by kernel_rfl) ?_ | refine ac ?_ | refine ae ?_ | with_reducible refine Later.mk ?_); simp only [evD, evL, iteL, aX, St.said, St.asked, evStep, evOp, evP, St.init, St.app, srcStep, kill, setMany, loadS, fieldS, buildS, toks, Fin, upd_app, Array.isEmpty, reduceLT, reduceAdd, reduceMul, reduceLeDiff, reduceSub, reduceEqDiff, reduceCtorEq, reduceIte, ↓Opt.is, ↓Opt.no, ↓Asks.yes, ↓Asks.no, tyL, encL, h1, asB]))
   refine Ab.ret ?_; simp only [evD, evL, iteL, aX, St.said, St.asked, evStep, evOp, evP, St.init, St.app, srcStep, kill, setMany, loadS, fieldS, buildS, toks, Fin, upd_app, Array.isEmpty, reduceLT, reduceAdd, reduceMul, reduceLeDiff, reduceSub, reduceEqDiff, reduceCtorEq, reduceIte, ↓Opt.is, ↓Opt.no, ↓Asks.yes, ↓Asks.no, tyL, List.nodup_cons, encL, Tryd.f95]
 · have h1 : decide (t ≥ 0) = false := decide_eq_false h0
   rcases Bool.eq_false_or_eq_true (inB (-1 - t) 0 9) with hd | hd <;> rw [hd] at hc2 ⊢
   · rw [if_pos rfl]
     refine AC.intro Tryd.func95 rfl (by decide) (by simp [S.res, S.ress]) (by simp [S.os, S.oss]) (by simp [S.wfs, S.wf, dbS]) (by simp [Tryd.f95]) ?_; rw [Tryd.ntmps95]
     repeat (first | refine aq ?_ | refine ap (by rfl : apartB 0 _ _ = true) ?_ | refine ak ?_ | refine ab ?_ | refine al ?_ | ((first | refine ar ?_ | refine ad ty_mix (by kernel_rfl) ?_ | refine ac ?_ | refine ae ?_ | with_reducible refine Later.mk ?_); simp only [evD, evL, iteL, aX, St.said, St.asked, evStep, evOp, evP, St.init, St.app, srcStep, kill, setMany, loadS, fieldS, buildS, toks, Fin, upd_app, Array.isEmpty, reduceLT, reduceAdd, reduceMul, reduceLeDiff, reduceSub, reduceEqDiff, reduceCtorEq, reduceIte, ↓Opt.is, ↓Opt.no, ↓Asks.yes, ↓Asks.no, tyL, encL, h1, hw, asB]))
     refine ⟨_, hc2, ?_⟩; (repeat (first | refine ap (by rfl : apartB 0 _ _ = true) ?_ | refine ap (by simp [osL, D.flat]) ?_)); repeat (first | refine aq ?_ | refine ap (by rfl : apartB 0 _ _ = true) ?_ | refine ak ?_ | refine ab ?_ | refine al ?_ | ((first | refine ar ?_ | refine ad ty_mix (by kernel_rfl) ?_ | refine ac ?_ | refine ae ?_ | with_reducible refine Later.mk ?_); simp only [evD, evL, iteL, aX, St.said, St.asked, evStep, evOp, evP, St.init, St.app, srcStep, kill, setMany, loadS, fieldS, buildS, toks, Fin, upd_app, Array.isEmpty, reduceLT, reduceAdd, reduceMul, reduceLeDiff, reduceSub, reduceEqDiff, reduceCtorEq, reduceIte, ↓Opt.is, ↓Opt.no, ↓Asks.yes, ↓Asks.no, tyL, encL, hw, asB]))
     refine Ab.ret ?_; simp only [evD, evL, iteL, aX, St.said, St.asked, evStep, evOp, evP, St.init, St.app, srcStep, kill, setMany, loadS, fieldS, buildS, toks, Fin, upd_app, Array.isEmpty, reduceLT, reduceAdd, reduceMul, reduceLeDiff, reduceSub, reduceEqDiff, reduceCtorEq, reduceIte, ↓Opt.is, ↓Opt.no, ↓Asks.yes, ↓Asks.no, tyL, List.nodup_cons, encL, Tryd.f95]
   · rw [if_neg (by simp)]
     refine AC.intro Tryd.func95 rfl (by decide) (by simp [S.res, S.ress]) (by simp [S.os, S.oss]) (by simp [S.wfs, S.wf, dbS]) (by simp [Tryd.f95]) ?_; rw [Tryd.ntmps95]
     repeat (first | refine aq ?_ | refine ap (by rfl : apartB 0 _ _ = true) ?_ | refine ak ?_ | refine ab ?_ | refine al ?_ | ((first | refine ar ?_ | refine ad ty_mix (by kernel_rfl) ?_ | refine ac ?_ | refine ae ?_ | with_reducible refine Later.mk ?_); simp only [evD, evL, iteL, aX, St.said, St.asked, evStep, evOp, evP, St.init, St.app, srcStep, kill, setMany, loadS, fieldS, buildS, toks, Fin, upd_app, Array.isEmpty, reduceLT, reduceAdd, reduceMul, reduceLeDiff, reduceSub, reduceEqDiff, reduceCtorEq, reduceIte, ↓Opt.is, ↓Opt.no, ↓Asks.yes, ↓Asks.no, tyL, encL, h1, hw, asB]))
     refine ⟨_, hc2, ?_⟩; (repeat (first | refine ap (by rfl : apartB 0 _ _ = true) ?_ | refine ap (by simp [osL, D.flat]) ?_)); repeat (first | refine aq ?_ | refine ap (by rfl : apartB 0 _ _ = true) ?_ | refine ak ?_ | refine ab ?_ | refine al ?_ | ((first | refine ar ?_ | refine ad ty_mix (by kernel_rfl) ?_ | refine ac ?_ | refine ae ?_ | with_reducible refine Later.mk ?_); simp only [evD, evL, iteL, aX, St.said, St.asked, evStep, evOp, evP, St.init, St.app, srcStep, kill, setMany, loadS, fieldS, buildS, toks, Fin, upd_app, Array.isEmpty, reduceLT, reduceAdd, reduceMul, reduceLeDiff, reduceSub, reduceEqDiff, reduceCtorEq, reduceIte, ↓Opt.is, ↓Opt.no, ↓Asks.yes, ↓Asks.no, tyL, encL, hw, asB]))
     refine Ab.ret ?_; simp only [evD, evL, iteL, aX, St.said, St.asked, evStep, evOp, evP, St.init, St.app, srcStep, kill, setMany, loadS, fieldS, buildS, toks, Fin, upd_app, Array.isEmpty, reduceLT, reduceAdd, reduceMul, reduceLeDiff, reduceSub, reduceEqDiff, reduceCtorEq, reduceIte, ↓Opt.is, ↓Opt.no, ↓Asks.yes, ↓Asks.no, tyL, List.nodup_cons, encL, Tryd.f95]
def xyzw : ByteArray := ⟨#[120, 121, 122, 119]⟩
def termB (t : Int) : ByteArray := if termOk t = true then itoaB (-1 - t) else if 0 ≤ t ∧ t < 4 then xyzw.extract t.toNat (t.toNat + 1) else ⟨#[]⟩
theorem termOk_in {t : Int} (h : termOk t = true) : inR (-1 - t) := by
 unfold termOk inB at h
 simp only [Bool.and_eq_true, decide_eq_true_eq] at h
 exact ⟨by omega, by omega⟩
theorem implFormatTerm_a {t : Int} (h : inR t) : AC Tryd.prog 104 [.d (.v (.int .i64 t))] (.d (.v (.string (termB t)))) := by
 have hc := implTermValue_a h
 have hc2 := isIndex_a t 4
 unfold termB
 rcases Bool.eq_false_or_eq_true (termOk t) with hd | hd
 · have hc3 := implFormatInt_a (termOk_in hd)
   unfold termVal at hc
   rw [hd] at hc ⊢
   rw [if_pos rfl] at hc ⊢
   refine AC.intro Tryd.func104 rfl (by decide) (by simp [S.res, S.ress]) (by simp [S.os, S.oss]) (by simp [S.wfs, S.wf, dbS]) (by simp [Tryd.f104]) ?_; rw [Tryd.ntmps104]
   repeat (first | refine aq ?_ | refine ap (by rfl : apartB 0 _ _ = true) ?_ | refine ak ?_ | refine ab ?_ | refine al ?_ | ((first | refine ar ?_ | refine ad ty_mix (by kernel_rfl) ?_ | refine ac ?_ | refine ae ?_ | with_reducible refine Later.mk ?_); simp only [evD, evL, iteL, aX, St.said, St.asked, evStep, evOp, evP, St.init, St.app, srcStep, kill, setMany, loadS, fieldS, buildS, toks, Fin, upd_app, Array.isEmpty, reduceLT, reduceAdd, reduceMul, reduceLeDiff, reduceSub, reduceEqDiff, reduceCtorEq, reduceIte, ↓Opt.is, ↓Opt.no, ↓Asks.yes, ↓Asks.no, tyL, encL, asB]))
   refine ⟨_, hc, ?_⟩; (repeat (first | refine ap (by rfl : apartB 0 _ _ = true) ?_ | refine ap (by simp [osL, D.flat]) ?_)); repeat (first | refine aq ?_ | refine ap (by rfl : apartB 0 _ _ = true) ?_ | refine ak ?_ | refine ab ?_ | refine al ?_ | ((first | refine ar ?_ | refine ad ty_mix (by kernel_rfl) ?_ | refine ac ?_ | refine ae ?_ | with_reducible refine Later.mk ?_); simp only [evD, evL, iteL, aX, St.said, St.asked, evStep, evOp, evP, St.init, St.app, srcStep, kill, setMany, loadS, fieldS, buildS, toks, Fin, upd_app, Array.isEmpty, reduceLT, reduceAdd, reduceMul, reduceLeDiff, reduceSub, reduceEqDiff, reduceCtorEq, reduceIte, ↓Opt.is, ↓Opt.no, ↓Asks.yes, ↓Asks.no, tyL, encL, asB]))
   refine ⟨_, hc3, ?_⟩; (repeat (first | refine ap (by rfl : apartB 0 _ _ = true) ?_ | refine ap (by simp [osL, D.flat]) ?_)); repeat (first | refine aq ?_ | refine ap (by rfl : apartB 0 _ _ = true) ?_ | refine ak ?_ | refine ab ?_ | refine al ?_ | ((first | refine ar ?_ | refine ad ty_mix (by kernel_rfl) ?_ | refine ac ?_ | refine ae ?_ | with_reducible refine Later.mk ?_); simp only [evD, evL, iteL, aX, St.said, St.asked, evStep, evOp, evP, St.init, St.app, srcStep, kill, setMany, loadS, fieldS, buildS, toks, Fin, upd_app, Array.isEmpty, reduceLT, reduceAdd, reduceMul, reduceLeDiff, reduceSub, reduceEqDiff, reduceCtorEq, reduceIte, ↓Opt.is, ↓Opt.no, ↓Asks.yes, ↓Asks.no, tyL, encL, asB]))
   refine Ab.ret ?_; simp only [evD, evL, iteL, aX, St.said, St.asked, evStep, evOp, evP, St.init, St.app, srcStep, kill, setMany, loadS, fieldS, buildS, toks, Fin, upd_app, Array.isEmpty, reduceLT, reduceAdd, reduceMul, reduceLeDiff, reduceSub, reduceEqDiff, reduceCtorEq, reduceIte, ↓Opt.is, ↓Opt.no, ↓Asks.yes, ↓Asks.no, tyL, List.nodup_cons, encL, Tryd.f104]
 · rw [hd] at hc ⊢
   rw [if_neg (by simp)]
   by_cases hi : 0 ≤ t ∧ t < 4
   · rw [decide_eq_true hi.1, decide_eq_true hi.2] at hc2
     rw [if_pos hi]
     obtain ⟨k, rfl⟩ : ∃ k : Nat, t = (k : Int) := ⟨t.toNat, by omega⟩
     have hw : IntKind.i64.wrap ((k : Int) + 1) = ((k + 1 : Nat) : Int) := by rw [IntKind.wrap_i64]; omega
     have z3 : ∀ x : Nat, (0 ≤ (x : Int)) = True := fun x => eq_true (by omega)
     have z4 : (k ≤ k + 1) = True := eq_true (by omega)
     have z5 : (k + 1 ≤ xyzw.size) = True := eq_true (by show k + 1 ≤ 4; omega)
     rw [Int.toNat_natCast]
     unfold xyzw at *
     refine AC.intro Tryd.func104 rfl (by decide) (by simp [S.res, S.ress]) (by simp [S.os, S.oss]) (by simp [S.wfs, S.wf, dbS]) (by simp [Tryd.f104]) ?_; rw [Tryd.ntmps104]
     repeat (first | refine aq ?_ | refine ap (by rfl : apartB 0 _ _ = true) ?_ | refine ak ?_ | refine ab ?_ | refine al ?_ | ((first | refine ar ?_ | refine ad ty_mix (by kernel_rfl) ?_ | refine ac ?_ | refine ae ?_ | with_reducible refine Later.mk ?_); simp only [evD, evL, iteL, aX, St.said, St.asked, evStep, evOp, evP, St.init, St.app, srcStep, kill, setMany, loadS, fieldS, buildS, toks, Fin, upd_app, Array.isEmpty, reduceLT, reduceAdd, reduceMul, reduceLeDiff, reduceSub, reduceEqDiff, reduceCtorEq, reduceIte, ↓Opt.is, ↓Opt.no, ↓Asks.yes, ↓Asks.no, tyL, encL, asB]))
     refine ⟨_, hc, ?_⟩; (repeat (first | refine ap (by rfl : apartB 0 _ _ = true) ?_ | refine ap (by simp [osL, D.flat]) ?_)); repeat (first | refine aq ?_ | refine ap (by rfl : apartB 0 _ _ = true) ?_ | refine ak ?_ | refine ab ?_ | refine al ?_ | ((first | refine ar ?_ | refine ad ty_mix (by kernel_rfl) ?_ | refine ac ?_ | refine ae ?_ | with_reducible refine Later.mk ?_); simp only [evD, evL, iteL, aX, St.said, St.asked, evStep, evOp, evP, St.init, St.app, srcStep, kill, setMany, loadS, fieldS, buildS, toks, Fin, upd_app, Array.isEmpty, reduceLT, reduceAdd, reduceMul, reduceLeDiff, reduceSub, reduceEqDiff, reduceCtorEq, reduceIte, ↓Opt.is, ↓Opt.no, ↓Asks.yes, ↓Asks.no, tyL, encL, asB]))
     refine ⟨_, hc2, ?_⟩; (repeat (first | refine ap (by rfl : apartB 0 _ _ = true) ?_ | refine ap (by simp [osL, D.flat]) ?_)); repeat (first | refine aq ?_ | refine ap (by rfl : apartB 0 _ _ = true) ?_ | refine ak ?_ | refine ab ?_ | refine al ?_ | ((first | refine ar ?_ | refine ad ty_mix (by kernel_rfl) ?_ | refine ac ?_ | refine ae ?_ | with_reducible refine Later.mk ?_); simp only [evD, evL, iteL, aX, St.said, St.asked, evStep, evOp, evP, St.init, St.app, srcStep, kill, setMany, loadS, fieldS, buildS, toks, Fin, upd_app, Array.isEmpty, reduceLT, reduceAdd, reduceMul, reduceLeDiff, reduceSub, reduceEqDiff, reduceCtorEq, reduceIte, ↓Opt.is, ↓Opt.no, ↓Asks.yes, ↓Asks.no, tyL, encL, hw, z3, z4, z5, Int.toNat_natCast, Option.isNone_none, if_true, asB]))
     refine Ab.ret ?_; simp only [evD, evL, iteL, aX, St.said, St.asked, evStep, evOp, evP, St.init, St.app, srcStep, kill, setMany, loadS, fieldS, buildS, toks, Fin, upd_app, Array.isEmpty, reduceLT, reduceAdd, reduceMul, reduceLeDiff, reduceSub, reduceEqDiff, reduceCtorEq, reduceIte, ↓Opt.is, ↓Opt.no, ↓Asks.yes, ↓Asks.no, tyL, List.nodup_cons, encL, Tryd.f104]
   · have hd2 : (decide (0 ≤ t) && decide (t < 4)) = false := by rw [Bool.and_eq_false_iff, decide_eq_false_iff_not, decide_eq_false_iff_not]; omega
     rw [hd2] at hc2
     rw [if_neg hi]
     refine AC.intro Tryd.func104 rfl (by decide) (by simp [S.res, S.ress]) (by simp [S.os, S.oss]) (by simp [S.wfs, S.wf, dbS]) (by simp [Tryd.f104]) ?_; rw [Tryd.ntmps104]
     repeat (first | refine aq ?_ | refine ap (by rfl : apartB 0 _ _ = true) ?_ | refine ak ?_ | refine ab ?_ | refine al ?_ | ((first | refine ar ?_ | refine ad ty_mix (by kernel_rfl) ?_ | refine ac ?_ | refine ae ?_ | with_reducible refine Later.mk ?_); simp only [evD, evL, iteL, aX, St.said, St.asked, evStep, evOp, evP, St.init, St.app, srcStep, kill, setMany, loadS, fieldS, buildS, toks, Fin, upd_app, Array.isEmpty, reduceLT, reduceAdd, reduceMul, reduceLeDiff, reduceSub, reduceEqDiff, reduceCtorEq, reduceIte, ↓Opt.is, ↓Opt.no, ↓Asks.yes, ↓Asks.no, tyL, encL, asB]))
     refine ⟨_, hc, ?_⟩; (repeat (first | refine ap (by rfl : apartB 0 _ _ = true) ?_ | refine ap (by simp [osL, D.flat]) ?_)); repeat (first | refine aq ?_ | refine ap (by rfl : apartB 0 _ _ = true) ?_ | refine ak ?_ | refine ab ?_ | refine al ?_ | ((first | refine ar ?_ | refine ad ty_mix (by kernel_rfl) ?_ | refine ac ?_ | refine ae ?_ | with_reducible refine Later.mk ?_); simp only [evD, evL, iteL, aX, St.said, St.asked, evStep, evOp, evP, St.init, St.app, srcStep, kill, setMany, loadS, fieldS, buildS, toks, Fin, upd_app, Array.isEmpty, reduceLT, reduceAdd, reduceMul, reduceLeDiff, reduceSub, reduceEqDiff, reduceCtorEq, reduceIte, ↓Opt.is, ↓Opt.no, ↓Asks.yes, ↓Asks.no, tyL, encL, asB]))
     refine ⟨_, hc2, ?_⟩; (repeat (first | refine ap (by rfl : apartB 0 _ _ = true) ?_ | refine ap (by simp [osL, D.flat]) ?_)); repeat (first | refine aq ?_ | refine ap (by rfl : apartB 0 _ _ = true) ?_ | refine ak ?_ | refine ab ?_ | refine al ?_ | ((first | refine ar ?_ | refine ad ty_mix (by kernel_rfl) ?_ | refine ac ?_ | refine ae ?_ | with_reducible refine Later.mk ?_); simp only [evD, evL, iteL, aX, St.said, St.asked, evStep, evOp, evP, St.init, St.app, srcStep, kill, setMany, loadS, fieldS, buildS, toks, Fin, upd_app, Array.isEmpty, reduceLT, reduceAdd, reduceMul, reduceLeDiff, reduceSub, reduceEqDiff, reduceCtorEq, reduceIte, ↓Opt.is, ↓Opt.no, ↓Asks.yes, ↓Asks.no, tyL, encL, asB]))
     refine Ab.ret ?_; simp only [evD, evL, iteL, aX, St.said, St.asked, evStep, evOp, evP, St.init, St.app, srcStep, kill, setMany, loadS, fieldS, buildS, toks, Fin, upd_app, Array.isEmpty, reduceLT, reduceAdd, reduceMul, reduceLeDiff, reduceSub, reduceEqDiff, reduceCtorEq, reduceIte, ↓Opt.is, ↓Opt.no, ↓Asks.yes, ↓Asks.no, tyL, List.nodup_cons, encL, Tryd.f104]
theorem specFormatTerm_a {t : Int} (h : inR t) : AC Tryd.prog 47 [.d (.v (.int .i64 t))] (.d (.v (.string (termB t)))) := by
 have hc := specTermValue_a h
 have hc2 := in_b t 0 3
 unfold termB
 rcases Bool.eq_false_or_eq_true (termOk t) with hd | hd
 · have hc3 := specFormatInt_a (termOk_in hd)
   unfold termVal at hc
   rw [hd] at hc ⊢
   rw [if_pos rfl] at hc ⊢
   refine AC.intro Tryd.func47 rfl (by decide) (by simp [S.res, S.ress]) (by simp [S.os, S.oss]) (by simp [S.wfs, S.wf, dbS]) (by simp [Tryd.f47]) ?_; rw [Tryd.ntmps47]
   repeat (first | refine aq ?_ | refine ap (by rfl : apartB 0 _ _ = true) ?_ | refine ak ?_ | refine ab ?_ | refine al ?_ | ((first | refine ar ?_ | refine ad ty_mix (by kernel_rfl) ?_ | refine ac ?_ | refine ae ?_ | with_reducible refine Later.mk ?_); simp only [evD, evL, iteL, aX, St.said, St.asked, evStep, evOp, evP, St.init, St.app, srcStep, kill, setMany, loadS, fieldS, buildS, toks, Fin, upd_app, Array.isEmpty, reduceLT, reduceAdd, reduceMul, reduceLeDiff, reduceSub, reduceEqDiff, reduceCtorEq, reduceIte, ↓Opt.is, ↓Opt.no, ↓Asks.yes, ↓Asks.no, tyL, encL, asB]))
   refine ⟨_, hc, ?_⟩; (repeat (first | refine ap (by rfl : apartB 0 _ _ = true) ?_ | refine ap (by simp [osL, D.flat]) ?_)); repeat (first | refine aq ?_ | refine ap (by rfl : apartB 0 _ _ = true) ?_ | refine ak ?_ | refine ab ?_ | refine al ?_ | ((first | refine ar ?_ | refine ad ty_mix (by kernel_rfl) ?_ | refine ac ?_ | refine ae ?_ | with_reducible refine Later.mk ?_); simp only [evD, evL, iteL, aX, St.said, St.asked, evStep, evOp, evP, St.init, St.app, srcStep, kill, setMany, loadS, fieldS, buildS, toks, Fin, upd_app, Array.isEmpty, reduceLT, reduceAdd, reduceMul, reduceLeDiff, reduceSub, reduceEqDiff, reduceCtorEq, reduceIte, ↓Opt.is, ↓Opt.no, ↓Asks.yes, ↓Asks.no, tyL, encL, asB]))
   refine ⟨_, hc3, ?_⟩; (repeat (first | refine ap (by rfl : apartB 0 _ _ = true) ?_ | refine ap (by simp [osL, D.flat]) ?_)); repeat (first | refine aq ?_ | refine ap (by rfl : apartB 0 _ _ = true) ?_ | refine ak ?_ | refine ab ?_ | refine al ?_ | ((first | refine ar ?_ | refine ad ty_mix (by kernel_rfl) ?_ | refine ac ?_ | refine ae ?_ | with_reducible refine Later.mk ?_); simp only [evD, evL, iteL, aX, St.said, St.asked, evStep, evOp, evP, St.init, St.app, srcStep, kill, setMany, loadS, fieldS, buildS, toks, Fin, upd_app, Array.isEmpty, reduceLT, reduceAdd, reduceMul, reduceLeDiff, reduceSub, reduceEqDiff, reduceCtorEq, reduceIte, ↓Opt.is, ↓Opt.no, ↓Asks.yes, ↓Asks.no, tyL, encL, asB]))
   refine Ab.ret ?_; simp only [evD, evL, iteL, aX, St.said, St.asked, evStep, evOp, evP, St.init, St.app, srcStep, kill, setMany, loadS, fieldS, buildS, toks, Fin, upd_app, Array.isEmpty, reduceLT, reduceAdd, reduceMul, reduceLeDiff, reduceSub, reduceEqDiff, reduceCtorEq, reduceIte, ↓Opt.is, ↓Opt.no, ↓Asks.yes, ↓Asks.no, tyL, List.nodup_cons, encL, Tryd.f47]
 · rw [hd] at hc ⊢
   rw [if_neg (by simp)]
   by_cases hi : 0 ≤ t ∧ t < 4
   · rw [show inB t 0 3 = true by unfold inB; simp; omega] at hc2
     rw [if_pos hi]
     obtain ⟨k, rfl⟩ : ∃ k : Nat, t = (k : Int) := ⟨t.toNat, by omega⟩
     have hw : IntKind.i64.wrap ((k : Int) + 1) = ((k + 1 : Nat) : Int) := by rw [IntKind.wrap_i64]; omega
     have z3 : ∀ x : Nat, (0 ≤ (x : Int)) = True := fun x => eq_true (by omega)
     have z4 : (k ≤ k + 1) = True := eq_true (by omega)
     have z5 : (k + 1 ≤ xyzw.size) = True := eq_true (by show k + 1 ≤ 4; omega)
     rw [Int.toNat_natCast]
     unfold xyzw at *
     refine AC.intro Tryd.func47 rfl (by decide) (by simp [S.res, S.ress]) (by simp [S.os, S.oss]) (by simp [S.wfs, S.wf, dbS]) (by simp [Tryd.f47]) ?_; rw [Tryd.ntmps47]
     repeat (first | refine aq ?_ | refine ap (by rfl : apartB 0 _ _ = true) ?_ | refine ak ?_ | refine ab ?_ | refine al ?_ | ((first | refine ar ?_ | refine ad ty_mix (by kernel_rfl) ?_ | refine ac ?_ | refine ae ?_ | with_reducible refine Later.mk ?_); simp only [evD, evL, iteL, aX, St.said, St.asked, evStep, evOp, evP, St.init, St.app, srcStep, kill, setMany, loadS, fieldS, buildS, toks, Fin, upd_app, Array.isEmpty, reduceLT, reduceAdd, reduceMul, reduceLeDiff, reduceSub, reduceEqDiff, reduceCtorEq, reduceIte, ↓Opt.is, ↓Opt.no, ↓Asks.yes, ↓Asks.no, tyL, encL, asB]))
     refine ⟨_, hc, ?_⟩; (repeat (first | refine ap (by rfl : apartB 0 _ _ = true) ?_ | refine ap (by simp [osL, D.flat]) ?_)); repeat (first | refine aq ?_ | refine ap (by rfl : apartB 0 _ _ = true) ?_ | refine ak ?_ | refine ab ?_ | refine al ?_ | ((first | refine ar ?_ | refine ad ty_mix (by kernel_rfl) ?_ | refine ac ?_ | refine ae ?_ | with_reducible refine Later.mk ?_); simp only [evD, evL, iteL, aX, St.said, St.asked, evStep, evOp, evP, St.init, St.app, srcStep, kill, setMany, loadS, fieldS, buildS, toks, Fin, upd_app, Array.isEmpty, reduceLT, reduceAdd, reduceMul, reduceLeDiff, reduceSub, reduceEqDiff, reduceCtorEq, reduceIte, ↓Opt.is, ↓Opt.no, ↓Asks.yes, ↓Asks.no, tyL, encL, asB]))
     refine ⟨_, hc2, ?_⟩; (repeat (first | refine ap (by rfl : apartB 0 _ _ = true) ?_ | refine ap (by simp [osL, D.flat]) ?_)); repeat (first | refine aq ?_ | refine ap (by rfl : apartB 0 _ _ = true) ?_ | refine ak ?_ | refine ab ?_ | refine al ?_ | ((first | refine ar ?_ | refine ad ty_mix (by kernel_rfl) ?_ | refine ac ?_ | refine ae ?_ | with_reducible refine Later.mk ?_); simp only [evD, evL, iteL, aX, St.said, St.asked, evStep, evOp, evP, St.init, St.app, srcStep, kill, setMany, loadS, fieldS, buildS, toks, Fin, upd_app, Array.isEmpty, reduceLT, reduceAdd, reduceMul, reduceLeDiff, reduceSub, reduceEqDiff, reduceCtorEq, reduceIte, ↓Opt.is, ↓Opt.no, ↓Asks.yes, ↓Asks.no, tyL, encL, hw, z3, z4, z5, Int.toNat_natCast, Option.isNone_none, if_true, asB]))
     refine Ab.ret ?_; simp only [evD, evL, iteL, aX, St.said, St.asked, evStep, evOp, evP, St.init, St.app, srcStep, kill, setMany, loadS, fieldS, buildS, toks, Fin, upd_app, Array.isEmpty, reduceLT, reduceAdd, reduceMul, reduceLeDiff, reduceSub, reduceEqDiff, reduceCtorEq, reduceIte, ↓Opt.is, ↓Opt.no, ↓Asks.yes, ↓Asks.no, tyL, List.nodup_cons, encL, Tryd.f47]
   · rw [show inB t 0 3 = false by unfold inB; rw [Bool.and_eq_false_iff, decide_eq_false_iff_not, decide_eq_false_iff_not]; omega] at hc2
     rw [if_neg hi]
     refine AC.intro Tryd.func47 rfl (by decide) (by simp [S.res, S.ress]) (by simp [S.os, S.oss]) (by simp [S.wfs, S.wf, dbS]) (by simp [Tryd.f47]) ?_; rw [Tryd.ntmps47]
     repeat (first | refine aq ?_ | refine ap (by rfl : apartB 0 _ _ = true) ?_ | refine ak ?_ | refine ab ?_ | refine al ?_ | ((first | refine ar ?_ | refine ad ty_mix (by kernel_rfl) ?_ | refine ac ?_ | refine ae ?_ | with_reducible refine Later.mk ?_); simp only [evD, evL, iteL, aX, St.said, St.asked, evStep, evOp, evP, St.init, St.app, srcStep, kill, setMany, loadS, fieldS, buildS, toks, Fin, upd_app, Array.isEmpty, reduceLT, reduceAdd, reduceMul, reduceLeDiff, reduceSub, reduceEqDiff, reduceCtorEq, reduceIte, ↓Opt.is, ↓Opt.no, ↓Asks.yes, ↓Asks.no, tyL, encL, asB]))
     refine ⟨_, hc, ?_⟩; (repeat (first | refine ap (by rfl : apartB 0 _ _ = true) ?_ | refine ap (by simp [osL, D.flat]) ?_)); repeat (first | refine aq ?_ | refine ap (by rfl : apartB 0 _ _ = true) ?_ | refine ak ?_ | refine ab ?_ | refine al ?_ | ((first | refine ar ?_ | refine ad ty_mix (by kernel_rfl) ?_ | refine ac ?_ | refine ae ?_ | with_reducible refine Later.mk ?_); simp only [evD, evL, iteL, aX, St.said, St.asked, evStep, evOp, evP, St.init, St.app, srcStep, kill, setMany, loadS, fieldS, buildS, toks, Fin, upd_app, Array.isEmpty, reduceLT, reduceAdd, reduceMul, reduceLeDiff, reduceSub, reduceEqDiff, reduceCtorEq, reduceIte, ↓Opt.is, ↓Opt.no, ↓Asks.yes, ↓Asks.no, tyL, encL, asB]))
     refine ⟨_, hc2, ?_⟩; (repeat (first | refine ap (by rfl : apartB 0 _ _ = true) ?_ | refine ap (by simp [osL, D.flat]) ?_)); repeat (first | refine aq ?_ | refine ap (by rfl : apartB 0 _ _ = true) ?_ | refine ak ?_ | refine ab ?_ | refine al ?_ | ((first | refine ar ?_ | refine ad ty_mix (by kernel_rfl) ?_ | refine ac ?_ | refine ae ?_ | with_reducible refine Later.mk ?_); simp only [evD, evL, iteL, aX, St.said, St.asked, evStep, evOp, evP, St.init, St.app, srcStep, kill, setMany, loadS, fieldS, buildS, toks, Fin, upd_app, Array.isEmpty, reduceLT, reduceAdd, reduceMul, reduceLeDiff, reduceSub, reduceEqDiff, reduceCtorEq, reduceIte, ↓Opt.is, ↓Opt.no, ↓Asks.yes, ↓Asks.no, tyL, encL, asB]))
     refine Ab.ret ?_; simp only [evD, evL, iteL, aX, St.said, St.asked, evStep, evOp, evP, St.init, St.app, srcStep, kill, setMany, loadS, fieldS, buildS, toks, Fin, upd_app, Array.isEmpty, reduceLT, reduceAdd, reduceMul, reduceLeDiff, reduceSub, reduceEqDiff, reduceCtorEq, reduceIte, ↓Opt.is, ↓Opt.no, ↓Asks.yes, ↓Asks.no, tyL, List.nodup_cons, encL, Tryd.f47]
end Ab
end

section
/- strings.Builder at this dump: WriteString's contract; a formatted row. -/
open Go Go.Proofs Go.RowKit
theorem byteCells_str (s : ByteArray) : Lib.strCells s = Lib.byteCells s.data.toList := by
 simp [Lib.strCells, Lib.byteCells]
set_option maxHeartbeats 1600000 in
theorem writeString_any (B b : Nat) (l : List UInt8) (s : ByteArray) (w : World) (h : Lib.IsBuilder 180 5 B b (Lib.byteCells l) w) (hlen : l.length + s.size ≤ 140737488355328) (hBw : B ≤ w.heap.size) :
   Calls Tryd.prog 136 #[.pointer (some ⟨b, 0, none⟩), .string s] w fun e w' => e = .returned (.tuple #[.int .i64 s.size, .nilIface]) ∧ Lib.IsBuilder 180 5 B b (Lib.byteCells (l ++ s.data.toList)) w' ∧ Below B w w' := by
 obtain ⟨i0, hi, hz0, hz1, hz2⟩ := info_parts Tryd.infoU8
 have hL : (Lib.byteCells l).length = l.length := Lib.byteCells_length l
 go_enter Tryd.func136, Tryd.ntmps136
 go_wp2_with (go_at_call 155; refine (copyCheck_any B b _ _ h).mono ?_)
 rintro e w1 ⟨rfl, hab, hb1⟩
 have hlt := hab.lt
 obtain ⟨hB, v, hbk, hown, hne⟩ := hab
 have d0 : w1.cell? ⟨b, 0, none⟩ = some (.pointer (some ⟨b, 0, none⟩)) := by rw [Lib.cell_of_heap hbk]; rfl
 have d1 : w1.cell? ⟨b, 1, none⟩ = some v := by rw [Lib.cell_of_heap hbk]; rfl
 go_wp2_with (at_builtin; refine Lib.wpList_append_own_string _ rfl _ _ 159 9 rfl B 5 i0 Tryd.underlying159 Tryd.underlying9 hi hz0 hz1 hz2 _ _ _ rfl hown s rfl ?c3 ?c4 ?c5 ?_)
 case c3 => unfold maxLen; omega
 case c4 => omega
 case c5 => have := hb1.size; omega
 intro v' w2 hown' hgrow _
 have hb2 : w2.heap[b]? = some (.cells #[.pointer (some ⟨b, 0, none⟩), v] 180 (0, 0)) := by
   rw [hgrow.block b hlt (fun q => hne q.symm)]; exact hbk
 have e0 : w2.cell? ⟨b, 0, none⟩ = some (.pointer (some ⟨b, 0, none⟩)) := by rw [Lib.cell_of_heap hb2]; rfl
 have e1 : w2.cell? ⟨b, 1, none⟩ = some v := by rw [Lib.cell_of_heap hb2]; rfl
 have f1 : w2.frozen? ⟨b, 1, none⟩ = false := Lib.frozen_of_heap hb2 1
 have hb3 : Below B w w2 := hb1.grown hgrow (by have := hb1.size; omega) (fun k hk => (World.ownsRow.lt hown k hk).1)
 have hown3 : w2.ownsRow B 5 1 v' (Lib.byteCells (l ++ s.data.toList)).length (Lib.byteCells (l ++ s.data.toList)) := by
   have e : Lib.byteCells (l ++ s.data.toList) = Lib.byteCells l ++ Lib.strCells s := by rw [byteCells_str]; simp [Lib.byteCells]
   rw [e, List.length_append, Lib.strCells_length]
   first | exact hown' | (rw [hL]; exact hown') | simpa using hown'
 have hput := Lib.BuilderAt.put (T := 180) (e := 5) hB hb2 hown3 (by decide)
 obtain ⟨ao, n', cap, rfl⟩ : ∃ ao n' cap, v' = .slice ao n' cap := by
   rcases hown'.2 with ⟨hv, _⟩ | ⟨g, cap, cur, hv, _⟩
   · exact ⟨_, _, _, hv⟩
   · exact ⟨_, _, _, hv⟩
 clear hown hown' hown3 hgrow hbk d0 d1
 have Hput := Lib.hid hput
 clear hput
 go_wp2
 go_ret2
 exact ⟨rfl, .inr Hput.out, hb3.setCell (p := ⟨b, 1, none⟩) hB _⟩
theorem isBuilder_below {T e : TypeId} {B b : Nat} {bs : List Value} {w w' : World} (h : Lib.IsBuilder T e B b bs w) (hb : Below w.heap.size w w') : Lib.IsBuilder T e B b bs w' := by
 have key : ∀ p, Lib.BuilderAt T e B b p bs w → Lib.BuilderAt T e B b p bs w' := fun p h => by
   have hlt := h.lt
   obtain ⟨hB, v, hbk, hown, hne⟩ := h
   refine ⟨hB, v, (hb.block b hlt).trans hbk, ⟨hown.1, hown.2.imp (fun z => z) ?_⟩, hne⟩
   rintro ⟨g, cap, cur, hv, hg, hh, rest⟩
   exact ⟨g, cap, cur, hv, hg, (hb.block g (Array.getElem?_eq_some_iff.1 hh).1).trans hh, rest⟩
 exact h.imp (key _) (key _)
def rowTo (F : Int → ByteArray) (k : Int) (name : ByteArray) (l : List Int) : Nat → List UInt8
 | 0 => name.data.toList
 | i + 1 => rowTo F k name l i ++ (if (i : Int) = k then [124] else []) ++ (F (l.getD i 0)).data.toList
def rowB (F : Int → ByteArray) (r : Rel) (l : List Int) : ByteArray := str (rowTo F r.key r.name l l.length)
theorem rowTo_len {F : Int → ByteArray} {k : Int} {name : ByteArray} {l : List Int} (hF : ∀ x, x ∈ l → (F x).size ≤ 21) : ∀ i, i ≤ l.length → (rowTo F k name l i).length ≤ name.size + i * 22
 | 0, _ => Nat.le_of_eq (by rw [Nat.zero_mul]; rfl)
 | i + 1, hi => by
   have ih := rowTo_len (k := k) (name := name) hF i (by omega)
   have h1 : l.getD i 0 ∈ l := by rw [List.getD_eq_getElem?_getD, List.getElem?_eq_getElem (by omega)]; exact List.getElem_mem _
   have h2 := hF _ h1
   rw [rowTo, List.length_append, List.length_append]
   have h3 : (if (i : Int) = k then [124] else [] : List UInt8).length ≤ 1 := by split <;> simp
   have h4 : (F (l.getD i 0)).data.toList.length = (F (l.getD i 0)).size := rfl
   omega
set_option maxHeartbeats 3200000 in
theorem formatRow_c {g : FuncId} {F : Int → ByteArray} {r : Rel} {l : List Int} {a : Option Addr} {cap : Nat} {w : World} (hg : Ab.Glob w) (h : At (cSlice cInt) w l [.slice a l.length cap]) (hr : r.name.size ≤ 1048576) (hl : l.length ≤ 1048576) (hs : ∀ x, x ∈ l → (F x).size ≤ 21) (he : ∀ args ww, (callFunc g args).run Tryd.prog ww = .ok (.enter g args) ww)
   (hF : ∀ x, x ∈ l → ∀ ww, Ab.Glob ww → Calls Tryd.prog g #[.int .i64 x] ww fun e w' => e = .returned (.string (F x)) ∧ Below ww.heap.size ww w') :
   Calls Tryd.prog 106 #[.agg #[.string r.name, .int .i64 r.arity, .int .i64 r.key], .slice a l.length cap, .func (.func g) #[] #[]] w fun e w' => e = .returned (.string (rowB F r l)) ∧ Below w.heap.size w w' := by
 have hlen := rowTo_len (k := r.key) (name := r.name) hs
 have Hlen := Lib.hid hlen
 have Hr : Hid (∀ w' : World, Below w.heap.size w w' → ∀ j (hj : j < l.length), _) := fun w' hb j hj => ints_at (Cod.ok_below h hb) j hj
 have HF := Lib.hid hF
 have Hg := Lib.hid hg
 have hs' := hs
 clear h hF hg hlen hs
 go_enter Tryd.func106, Tryd.ntmps106
 have hsz : (w.alloc (.cells #[.string r.name, .int .i64 r.arity, .int .i64 r.key] 68)).heap.size = w.heap.size + 1 := by simp
 have hB1 : Below w.heap.size w (w.alloc (.cells #[.string r.name, .int .i64 r.arity, .int .i64 r.key] 68)) := by go_grown
 have p0 : (w.alloc (.cells #[.string r.name, .int .i64 r.arity, .int .i64 r.key] 68)).cell? ⟨w.heap.size, 0, none⟩ = some (.string r.name) := by go_simp
 have p2 : (w.alloc (.cells #[.string r.name, .int .i64 r.arity, .int .i64 r.key] 68)).cell? ⟨w.heap.size, 2, none⟩ = some (.int .i64 r.key) := by go_simp
 have hI0 := Lib.fresh_isBuilder 180 5 (w.alloc (.cells #[.string r.name, .int .i64 r.arity, .int .i64 r.key] 68))
 rw [hsz] at hI0
 go_wp2_with fail
 generalize hw1 : w.alloc (.cells #[.string r.name, .int .i64 r.arity, .int .i64 r.key] 68) = w1 at *
 clear hw1
 refine (writeString_any (w.heap.size + 1) (w.heap.size + 1) [] r.name _ hI0 (by simp; omega) (by simp; omega)).mono ?_
 rintro e w2 ⟨rfl, hI, hb2⟩
 rw [List.nil_append] at hI
 have hb2 : Below (w.heap.size + 1) w1 w2 := ((Below.refl _ _).alloc (by omega) _).trans hb2
 go_wp2
 go_loopw [15] (fun v wr => ∃ k : Nat, k ≤ l.length ∧ v = .int .i64 k ∧ Lib.IsBuilder 180 5 (w.heap.size + 1) (w.heap.size + 1) (Lib.byteCells (rowTo F r.key r.name l k)) wr ∧ Below (w.heap.size + 1) w1 wr) (fun v _ => l.length - (intOf v).toNat)
 case atStart => exact ⟨0, by omega, rfl, hI, hb2⟩
 case round =>
   obtain ⟨k, hk, rfl, hI, hb⟩ := hrel
   have hbw : Below w.heap.size w wr := hB1.trans (hb.mono (by omega))
   have p2' := (hb.cell (p := ⟨w.heap.size, 2, none⟩) (by simp)).trans p2
   by_cases hlt : k < l.length
   · obtain ⟨bb, off, rfl, hbB, hc⟩ := Hr.out _ hbw k hlt
     have hlen := Hlen.out k hk
     have hget : l.getD k 0 = l[k] := by rw [List.getD_eq_getElem?_getD, List.getElem?_eq_getElem hlt]; rfl
     have hFs := hs' _ (List.getElem_mem hlt)
     have HFk := Lib.hid (HF.out _ (List.getElem_mem hlt))
     have hwr : w.heap.size + 1 ≤ wr.heap.size := by have := hb.size; omega
     by_cases hkk : (k : Int) = r.key
     · have hst : rowTo F r.key r.name l (k + 1) = rowTo F r.key r.name l k ++ [124] ++ (F l[k]).data.toList := by rw [rowTo, if_pos hkk, hget]
       have hbe : ((k : Int) == r.key) = true := beq_iff_eq.2 hkk
       have Hst := Lib.hid hst
       clear hst hkk hget
       go_wp2_with fail
       refine (writeByte_any (w.heap.size + 1) (w.heap.size + 1) _ 124 _ rfl _ hI (by omega) hwr).mono ?_
       rintro e w2 ⟨rfl, hI2, hb2⟩
       have hw2 : w.heap.size + 1 ≤ w2.heap.size := by have := hb2.size; omega
       go_wp2_with fail
       refine (HFk.out _ (Hg.out.below (hbw.trans (hb2.mono (by omega))))).mono ?_
       rintro e w3 ⟨rfl, hb3⟩
       have hw3 : w.heap.size + 1 ≤ w3.heap.size := by have := hb3.size; omega
       have hI3 := isBuilder_below hI2 hb3
       go_wp2_with fail
       refine (writeString_any (w.heap.size + 1) (w.heap.size + 1) _ (F l[k]) _ hI3 (by rw [List.length_append, List.length_singleton]; omega) hw3).mono ?_
       rintro e w4 ⟨rfl, hI4, hb4⟩
       have hbb := ((hb.trans hb2).trans (hb3.mono hw2)).trans hb4
       clear hI hI2 hI3 hb2 hb3 hb4
       go_wp2
       go_roundw
       case rel => exact ⟨k + 1, by omega, by go_num, by rw [Hst.out]; exact hI4, hbb⟩
       case measure => simp [intOf]; omega
     · have hst : rowTo F r.key r.name l (k + 1) = rowTo F r.key r.name l k ++ (F l[k]).data.toList := by rw [rowTo, if_neg hkk, hget, List.append_nil]
       have hbe : ((k : Int) == r.key) = false := beq_eq_false_iff_ne.2 hkk
       have Hst := Lib.hid hst
       clear hst hkk hget
       go_wp2_with fail
       refine (HFk.out _ (Hg.out.below hbw)).mono ?_
       rintro e w3 ⟨rfl, hb3⟩
       have hw3 : w.heap.size + 1 ≤ w3.heap.size := by have := hb3.size; omega
       have hI3 := isBuilder_below hI hb3
       go_wp2_with fail
       refine (writeString_any (w.heap.size + 1) (w.heap.size + 1) _ (F l[k]) _ hI3 (by omega) hw3).mono ?_
       rintro e w4 ⟨rfl, hI4, hb4⟩
       have hbb := (hb.trans (hb3.mono hwr)).trans hb4
       clear hI hI3 hb3 hb4
       go_wp2
       go_roundw
       case rel => exact ⟨k + 1, by omega, by go_num, by rw [Hst.out]; exact hI4, hbb⟩
       case measure => simp [intOf]; omega
   · obtain rfl : k = l.length := by omega
     go_wp2_with fail
     refine (Tryd.Builder_String_any _ _ _ _ hI (by have := hb.size; omega)).mono ?_
     rintro e w3 ⟨rfl, hb3⟩
     clear hI
     go_wp2
     go_ret
     exact ⟨rfl, hbw.trans (hb3.mono (by omega))⟩
end

section
/- AbThr: AbRen AbFrz AbTup. -/
/- A number of the frame's own memory is given another name. -/
namespace Ab
open Go.RowKit
def rn (i j k : Nat) : Nat := if k = i then j else k
mutual
def S.ren (i j : Nat) : S → S
 | .u => .u
 | .d x => .d x
 | .a l => .a (S.renl i j l)
 | .t l => .t (S.renl i j l)
 | .p k z => .p (rn i j k) z
 | .e l z => .e l z
 | .g k es => .g (rn i j k) es
 | .o k x => .o (rn i j k) x
 | .f fn x y => .f fn (S.renl i j x) (S.renl i j y)
 | .m k => .m (rn i j k)
 | .q k n y z => .q (rn i j k) n y z
def S.renl (i j : Nat) : List S → List S
 | [] => []
 | s :: l => S.ren i j s :: S.renl i j l
end
def B.ren (i j : Nat) : B → B
 | .box l => .box (S.renl i j l)
 | x => x
def B.frOk (i j k : Nat) : B → Bool
 | .frm ids => decide (k ≠ i) && (ids.all fun q => decide (q ≠ i) && decide (q ≠ j))
 | _ => true
def renG (i j : Nat) (G : Gh) : Gh := { K := G.K, F := upd G.F j (G.F i), bx := upd G.bx j (G.bx i), tv := upd G.tv j (G.tv i), ov := upd G.ov j (G.ov i), tl := upd G.tl j (G.tl i) }
section
variable {w : World} {G : Gh} {m : Nat → B} {i j : Nat} (hj : m j = .none)
include hj
end
def renM (i j : Nat) (m : Nat → B) : Nat → B := fun k => if k = j then (m i).ren i j else if k = i then .none else (m k).ren i j
end Ab
/- A variable that will not be written again: from here on it is only read. -/
namespace Ab
open Go.RowKit
end Ab
/- Answers of two parts, the first the call's own. -/
namespace Ab
open Go.RowKit
end Ab
end

section
/- Chapter 9: IsValidConstraint, the model's and the program's. -/
open Go.RowKit
def colOk (l : List Rel) (r c : Int) : Bool := inB r 0 ((l.length : Int) - 1) && inB c 0 (arityAt l r - 1)
def fits (l : List Rel) (c : Dcn) : Bool := colOk l c.r1 c.j1 && (colOk l c.r1 c.c1 && (colOk l c.r2 c.j2 && (colOk l c.r2 c.c2 && inB c.cmp 1 2)))
def validCon (d : Dbs) (c : Dcn) : Bool := validDb d && fits d.rels c
end

section
/- Chapter 9: ViolatesConstraint, the model's and the program's. -/
open Go.RowKit
def valAt (x : Fct) (c : Int) : Int := x.vals.getD c.toNat 0
def forb (c : Dcn) (x y : Fct) : Bool := decide (x.rel = c.r1) && (decide (y.rel = c.r2) && (decide (valAt x c.j1 = valAt y c.j2) && (if c.cmp = 2 then decide (valAt x c.c1 < valAt y c.c2) else decide (valAt x c.c1 = valAt y c.c2))))
def hasCols (x : Fct) (j c : Int) : Prop := 0 ≤ j ∧ j < (x.vals.length : Int) ∧ 0 ≤ c ∧ c < (x.vals.length : Int)
def forbAt (d : Dbs) (c : Dcn) (i k : Int) : Bool := match d.facts[i.toNat]?, d.facts[k.toNat]? with | some x, some y => forb c x y | _, _ => false
def violates (d : Dbs) (c : Dcn) (i k : Int) : Bool := validCon d c && (inB i 0 ((d.facts.length : Int) - 1) && (inB k 0 ((d.facts.length : Int) - 1) && (!decide (i = k) && forbAt d c i k)))
end

section
/- Chapter 9: ViolatesConstraint, the model's. -/
open Go.RowKit
end

section
/- Chapters 8, 9: edges between facts; the constraints' conflicts. -/
open Go Go.Proofs Go.RowKit
namespace Ab
def eDcn : Enc cDcn := eMap _ (ePair eInt (ePair eInt (ePair eInt (ePair eInt (ePair eInt (ePair eInt eInt))))))
def factS (x : Fct) : S := .a [.d (.v (.int .i64 x.rel)), .d (encIs x.vals)]
def dcS (c : Dcn) : S := .a [.d (.v (.int .i64 c.r1)), .d (.v (.int .i64 c.r2)), .d (.v (.int .i64 c.j1)), .d (.v (.int .i64 c.j2)), .d (.v (.int .i64 c.c1)), .d (.v (.int .i64 c.c2)), .d (.v (.int .i64 c.cmp))]
def rowP (P : Nat → Nat → Bool) (a b : Nat) : List Edg := ((List.range b).filter fun k => decide (a < k) && P a k).map fun k : Nat => ⟨(a : Int), (k : Int)⟩
def edgP (n : Nat) (P : Nat → Nat → Bool) (a : Nat) : List Edg := (List.range a).flatMap fun i => rowP P i n
def edgesL (n : Nat) (P : Nat → Nat → Bool) : List Edg := edgP n P n
def confP (d : Dbs) (L : List Dcn) (a b : Nat) : Bool := keyR d a b || L.any fun c => violates d c a b || violates d c b a
def conflL (d : Dbs) (L : List Dcn) : List Edg := if validDb d then edgesL d.facts.length (confP d L) else []
end Ab
end

section
/- Constraints as text. -/
open Go Go.Proofs Go.RowKit
namespace Ab
def nameAt (d : Dbs) (r : Int) : ByteArray := (d.rels.map Rel.name).getD r.toNat ⟨#[]⟩
def signB (c : Dcn) : ByteArray := if c.cmp = 2 then ⟨#[60]⟩ else ⟨#[61]⟩
def conB (d : Dbs) (c : Dcn) : ByteArray := if validCon d c = true then ((⟨#[110, 111, 116, 32]⟩ : ByteArray) ++ nameAt d c.r1 ++ itoaB c.j1 ++ ⟨#[61]⟩ ++ nameAt d c.r2 ++ itoaB c.j2 ++ ⟨#[32]⟩ ++ itoaB c.c1 ++ signB c ++ itoaB c.c2) else ⟨#[]⟩
end Ab
end

section
/- Facts as text. -/
open Go Go.Proofs Go.RowKit
namespace Ab
theorem formatRow_a {g : FuncId} {F : Int → ByteArray} {r : Rel} {l : List Int} (gl : (eSlice eInt).good l) (hr : r.name.size ≤ 1048576) (hl : l.length ≤ 1048576) (hs : ∀ x, x ∈ l → (F x).size ≤ 21) (he : ∀ args ww, (callFunc g args).run Tryd.prog ww = .ok (.enter g args) ww)
   (hF : ∀ x, x ∈ l → AC Tryd.prog g [.d (.v (.int .i64 x))] (.d (.v (.string (F x))))) :
   AC Tryd.prog 106 [relS r, .d (encIs l), .f (.func g) [] []] (.d (.v (.string (rowB F r l)))) :=
 AC.plainG Tryd.func106 rfl (by decide) rfl (fun w K cs ov hg hK hr' => by
   simp only [RdSs] at hr'
   obtain ⟨v0, _, rfl, q0, v1, _, rfl, q1, v2, _, rfl, q2, rfl⟩ := hr'
   simp only [relS, RdS, RdSs, RdD] at q0
   obtain ⟨_, rfl, ⟨_, _, rfl, ⟨rfl, _⟩, _, _, rfl, ⟨rfl, _⟩, _, _, rfl, ⟨rfl, _⟩, rfl⟩, _⟩ := q0
   obtain ⟨a, c, rfl, h⟩ := ints_cut gl hK q1
   simp only [RdS, RdSs] at q2
   obtain ⟨_, _, rfl, rfl, rfl⟩ := q2
   exact formatRow_c hg h hr hl hs he (fun x hx ww hgw => by
     refine Calls.mono ((hF x hx).call (cs := [_]) ?_ hgw) ?_
     · simp only [RdSs]
       exact ⟨_, _, rfl, RdS.ofVal _ _ rfl, rfl⟩
     · rintro e w' ⟨c, rfl, q1, q2⟩
       exact ⟨by rw [q1.d], q2⟩))
def relAtN (l : List Rel) (r : Int) : Rel := l.getD r.toNat ⟨⟨#[]⟩, 0, 0⟩
def factB (l : List Rel) (x : Fct) : ByteArray := if validFact l x = true then rowB itoaB (relAtN l x.rel) x.vals else ⟨#[]⟩
theorem rowTo_first (F : Int → ByteArray) (k : Int) (name : ByteArray) (l : List Int) : str (rowTo F k name l 0) = name := (str_of name).symm
theorem rowTo_eq {F : Int → ByteArray} {k : Int} {name : ByteArray} {l : List Int} {i : Nat} (h : i < l.length) (hk : (i : Int) = k) : str (rowTo F k name l (i + 1)) = str (rowTo F k name l i) ++ ⟨#[124]⟩ ++ F l[i] := by
 rw [rowTo, if_pos hk, List.getD_eq_getElem?_getD, List.getElem?_eq_getElem h, ← str_append, ← str_append]
 rfl
theorem rowTo_ne {F : Int → ByteArray} {k : Int} {name : ByteArray} {l : List Int} {i : Nat} (h : i < l.length) (hk : (i : Int) ≠ k) : str (rowTo F k name l (i + 1)) = str (rowTo F k name l i) ++ F l[i] := by
 rw [rowTo, if_neg hk, List.getD_eq_getElem?_getD, List.getElem?_eq_getElem h, List.append_nil, ← str_append]
 rfl
end Ab
end

section
/- strings.Join in the layer. -/
open Go Go.Proofs Go.RowKit
namespace Ab
theorem encT_cells {w : World} {K : Nat → Nat → Prop} : ∀ {l : List ByteArray} {n : Nat} {cs : List Value}, RdE w K n (l.map encT) cs → cs = l.map Value.string
 | [], n, cs, h => by
   simp only [List.map_nil, RdE] at h
   exact h
 | x :: l, n, cs, h => by
   simp only [List.map_cons, RdE, encT, RdC, RdD] at h
   obtain ⟨c1, c2, rfl, _, ⟨c, c3, rfl, ⟨rfl, _⟩, rfl⟩, h2⟩ := h
   rw [encT_cells h2]
   rfl
theorem join_a (l : List ByteArray) (sep : ByteArray) (hl : l.length ≤ 1048576) (hz : (jn sep l).size ≤ 140737488355328) : AC Tryd.prog 102 [.d (.sl (l.map encT)), .d (.v (.string sep))] (.d (.v (.string (jn sep l)))) :=
 AC.plain Tryd.func102 rfl (by decide) rfl (fun w K cs ov hK hr => by
   simp only [RdSs] at hr
   obtain ⟨v0, _, rfl, q0, v1, _, rfl, q1, rfl⟩ := hr
   obtain rfl := q1.val
   simp only [RdS, RdD] at q0
   obtain ⟨a, cap, n, xs, rfl, h1, h2, h3, h4⟩ := q0
   have h3 := encT_cells h3
   subst h3
   rw [List.length_map] at h1 h2 ⊢
   rcases h4 with h4 | ⟨b, off, rfl, h4⟩
   · have h5 : l = [] := by simpa using h4
     subst h5
     refine Calls.mono (Tryd.strings_Join_none a cap sep w) ?_
     rintro e w' ⟨rfl, rfl⟩
     exact ⟨rfl, Below.refl _ _⟩
   · have hb : l = [] ∨ b < w.heap.size := by
       cases l with
       | nil => exact .inl rfl
       | cons x l => exact .inr (hK _ _ (h4 0 (.string x) rfl).2)
     rcases hb with rfl | hb
     · refine Calls.mono (Tryd.strings_Join_none _ cap sep w) ?_
       rintro e w' ⟨rfl, rfl⟩
       exact ⟨rfl, Below.refl _ _⟩
     · rw [← jn_lib] at hz ⊢
       refine Calls.mono (Tryd.strings_Join b off cap l sep w (fun j x hj => (h4 j (.string x) (by rw [List.getElem?_map, hj]; rfl)).1) hb (by omega) h1 (by simpa [ByteArray.size] using hz)) ?_
       exact fun e w' h => h)
end Ab
end

section
/- convertAll to texts, joinAll, at the program's types. Written by gen/abgent.py. -/
open Go Go.Proofs Go.RowKit
namespace Ab
theorem convertAll_int_string {g : FuncId} {caps : List S} (hc : Caps caps) (G : Int → ByteArray) (l : List Int) (hl : l.length ≤ 1048576) (hp : ∀ x, x ∈ l → AC Tryd.prog g (.d (.v (.int .i64 x)) :: caps) (.d (.v (.string (G x))))) :
   AC Tryd.prog 103 [.d (.sl (l.map encI)), .f (.func g) [] caps] (.o 0 (.sl ((l.map G).map encT))) := by
 refine AC.intro Tryd.func103 rfl (by decide) (by simp [S.res, S.ress]) (by simp [S.os, S.oss]) (by simp [S.wfs, S.wf, hc.wfs]) (by simp [Tryd.f103]) ?_; rw [Tryd.ntmps103]
 repeat (first | refine aq ?_ | refine ap (by rfl : apartB 0 _ _ = true) ?_ | refine ak ?_ | refine ab ?_ | refine al ?_ | ((first | refine ar ?_ | refine ad ty_mix (by kernel_rfl) ?_ | refine ac ?_ | refine ae ?_ | with_reducible refine Later.mk ?_); simp only [evD, evL, iteL, aX, St.said, St.asked, evStep, evOp, evP, St.init, St.app, srcStep, kill, setMany, loadS, fieldS, buildS, toks, Fin, upd_app, Array.isEmpty, reduceLT, reduceAdd, reduceMul, reduceLeDiff, reduceSub, reduceEqDiff, reduceCtorEq, reduceIte, ↓Opt.is, ↓Opt.no, ↓Asks.yes, ↓Asks.no, tyL, encL, asB]))
 refine ⟨by simp [D.flat], by omega, by simp only [maxLen]; omega, ?_⟩
 repeat (first | refine aq ?_ | refine ap (by rfl : apartB 0 _ _ = true) ?_ | refine ak ?_ | refine ab ?_ | refine al ?_ | ((first | refine ar ?_ | refine ad ty_mix (by kernel_rfl) ?_ | refine ac ?_ | refine ae ?_ | with_reducible refine Later.mk ?_); simp only [evD, evL, iteL, aX, St.said, St.asked, evStep, evOp, evP, St.init, St.app, srcStep, kill, setMany, loadS, fieldS, buildS, toks, Fin, upd_app, Array.isEmpty, reduceLT, reduceAdd, reduceMul, reduceLeDiff, reduceSub, reduceEqDiff, reduceCtorEq, reduceIte, ↓Opt.is, ↓Opt.no, ↓Asks.yes, ↓Asks.no, tyL, encL, asB]))
 refine Ab.loopI l.length (fun _ => True) (fun i => mkS 26 [(1, .f (.func g) [] caps), (5, .m 48), (11, .d (.sl (l.map encI))), (12, .d (.v (.int .i64 (l.length : Int)))), (13, .d (.v (.int .i64 (i : Int))))] [(48, .arr true 9 1 (((l.take i).map G).map encT ++ List.replicate (l.length - i) [.v (.string ⟨#[]⟩)]))] 160) trivial ?_ ?_
 · ((first | refine Le.mk rfl ?_ ?_ | refine LeTo.mk rfl ?_ ?_) <;> simp only [evD, evL, iteL, aX, St.said, St.asked, evStep, evOp, evP, St.init, St.app, srcStep, kill, setMany, loadS, fieldS, buildS, toks, Fin, upd_app, Array.isEmpty, reduceLT, reduceAdd, reduceMul, reduceLeDiff, reduceSub, reduceEqDiff, reduceCtorEq, reduceIte, ↓Opt.is, ↓Opt.no, ↓Asks.yes, ↓Asks.no, tyL, encL, leL, leD, ne_eq, hc.wfs, List.take_zero, List.map_nil, List.nil_append, Nat.sub_zero])
 intro i hi _
 repeat (first | refine aq ?_ | refine ap (by rfl : apartB 0 _ _ = true) ?_ | refine ak ?_ | refine ab ?_ | refine al ?_ | ((first | refine ar ?_ | refine ad ty_mix (by kernel_rfl) ?_ | refine ac ?_ | refine ae ?_ | with_reducible refine Later.mk ?_); simp only [evD, evL, iteL, aX, St.said, St.asked, evStep, evOp, evP, St.init, St.app, srcStep, kill, setMany, loadS, fieldS, buildS, toks, Fin, upd_app, Array.isEmpty, reduceLT, reduceAdd, reduceMul, reduceLeDiff, reduceSub, reduceEqDiff, reduceCtorEq, reduceIte, ↓Opt.is, ↓Opt.no, ↓Asks.yes, ↓Asks.no, tyL, encL, mkS, updl, asB]))
 refine ⟨fun h => ?_, fun h => ?_⟩
 · have h : i < l.length := by simpa using h
   have hw := wrapN h (by omega)
   have he := mkA encT G l i [.v (.string ⟨#[]⟩)] h
   have hs := mkA_set encT G l i [.v (.string ⟨#[]⟩)] h
   have hn := mkA_len encT G l i [.v (.string ⟨#[]⟩)] hi
   repeat (first | refine aq ?_ | refine ap (by rfl : apartB 0 _ _ = true) ?_ | refine ak ?_ | refine ab ?_ | refine al ?_ | ((first | refine ar ?_ | refine ad ty_mix (by kernel_rfl) ?_ | refine ac ?_ | refine ae ?_ | with_reducible refine Later.mk ?_); simp only [evD, evL, iteL, aX, St.said, St.asked, evStep, evOp, evP, St.init, St.app, srcStep, kill, setMany, loadS, fieldS, buildS, toks, Fin, upd_app, Array.isEmpty, reduceLT, reduceAdd, reduceMul, reduceLeDiff, reduceSub, reduceEqDiff, reduceCtorEq, reduceIte, ↓Opt.is, ↓Opt.no, ↓Asks.yes, ↓Asks.no, tyL, encL, getI h, hc.argl, hc.readsl, asB]))
   refine ⟨_, hp l[i] (List.getElem_mem h), ?_⟩
   try simp only [evD, evL, iteL, aX, St.said, St.asked, evStep, evOp, evP, St.init, St.app, srcStep, kill, setMany, loadS, fieldS, buildS, toks, Fin, upd_app, Array.isEmpty, reduceLT, reduceAdd, reduceMul, reduceLeDiff, reduceSub, reduceEqDiff, reduceCtorEq, reduceIte, ↓Opt.is, ↓Opt.no, ↓Asks.yes, ↓Asks.no, tyL, encL, hc.readsl]
   refine Later.mk ?_
   simp only [evD, evL, iteL, aX, St.said, St.asked, evStep, evOp, evP, St.init, St.app, srcStep, kill, setMany, loadS, fieldS, buildS, toks, Fin, upd_app, Array.isEmpty, reduceLT, reduceAdd, reduceMul, reduceLeDiff, reduceSub, reduceEqDiff, reduceCtorEq, reduceIte, ↓Opt.is, ↓Opt.no, ↓Asks.yes, ↓Asks.no, tyL, encL, he, hn, h, Int.ofNat_lt, mkA_len encT G l i [.v (.string ⟨#[]⟩)] hi, List.set_cons_zero]
   repeat (first | refine aq ?_ | refine ap (by rfl : apartB 0 _ _ = true) ?_ | refine ak ?_ | refine ab ?_ | refine al ?_ | ((first | refine ar ?_ | refine ad ty_mix (by kernel_rfl) ?_ | refine ac ?_ | refine ae ?_ | with_reducible refine Later.mk ?_); simp only [evD, evL, iteL, aX, St.said, St.asked, evStep, evOp, evP, St.init, St.app, srcStep, kill, setMany, loadS, fieldS, buildS, toks, Fin, upd_app, Array.isEmpty, reduceLT, reduceAdd, reduceMul, reduceLeDiff, reduceSub, reduceEqDiff, reduceCtorEq, reduceIte, ↓Opt.is, ↓Opt.no, ↓Asks.yes, ↓Asks.no, tyL, encL, hw, asB]))
   try refine ⟨h, ?_⟩
   ((first | refine Le.mk rfl ?_ ?_ | refine LeTo.mk rfl ?_ ?_) <;> simp only [evD, evL, iteL, aX, St.said, St.asked, evStep, evOp, evP, St.init, St.app, srcStep, kill, setMany, loadS, fieldS, buildS, toks, Fin, upd_app, Array.isEmpty, reduceLT, reduceAdd, reduceMul, reduceLeDiff, reduceSub, reduceEqDiff, reduceCtorEq, reduceIte, ↓Opt.is, ↓Opt.no, ↓Asks.yes, ↓Asks.no, tyL, encL, leL, leD, ne_eq, hc.wfs])
   exact hs.symm
 · have h : i = l.length := by have := of_decide_eq_false h; omega
   subst h
   repeat (first | refine aq ?_ | refine ap (by rfl : apartB 0 _ _ = true) ?_ | refine ak ?_ | refine ab ?_ | refine al ?_ | ((first | refine ar ?_ | refine ad ty_mix (by kernel_rfl) ?_ | refine ac ?_ | refine ae ?_ | with_reducible refine Later.mk ?_); simp only [evD, evL, iteL, aX, St.said, St.asked, evStep, evOp, evP, St.init, St.app, srcStep, kill, setMany, loadS, fieldS, buildS, toks, Fin, upd_app, Array.isEmpty, reduceLT, reduceAdd, reduceMul, reduceLeDiff, reduceSub, reduceEqDiff, reduceCtorEq, reduceIte, ↓Opt.is, ↓Opt.no, ↓Asks.yes, ↓Asks.no, tyL, encL, asB]))
   refine Ab.ret ?_
   simp only [evD, evL, iteL, aX, St.said, St.asked, evStep, evOp, evP, St.init, St.app, srcStep, kill, setMany, loadS, fieldS, buildS, toks, Fin, upd_app, Array.isEmpty, reduceLT, reduceAdd, reduceMul, reduceLeDiff, reduceSub, reduceEqDiff, reduceCtorEq, reduceIte, ↓Opt.is, ↓Opt.no, ↓Asks.yes, ↓Asks.no, tyL, Tryd.f103]
   exact ⟨⟨_, _, _, rfl, by simp⟩, by simp⟩
end Ab
end
end Go.Proofs.YtlcogbmceanghaaDoor
