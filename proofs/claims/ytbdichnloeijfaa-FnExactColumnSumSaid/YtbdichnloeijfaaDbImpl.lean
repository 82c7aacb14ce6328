/- Chapter 4: the program's IsValidDatabase. -/
import Derived.Test.YtbdichnloeijfaaDbSpec
import Derived.Test.YtbdichnloeijfaaFactImpl2
namespace Go.Proofs.Ytbdichnloeijfaa
open Go.RowKit
set_option linter.unusedVariables false
set_option maxRecDepth 100000

/-- Facts ascending, behind a fact. -/
def ascF : Option Fct → List Fct → Bool
  | _, [] => true
  | p, x :: l => okF p x && ascF (some x) l
theorem ascF_step (l : List Fct) (k : Nat) (hk : k < l.length) : ascF (prevG l k) (l.drop k) = (okF (prevG l k) l[k] && ascF (prevG l (k + 1)) (l.drop (k + 1))) := by
  rw [List.drop_eq_getElem_cons hk]
  simp [ascF, prevG, hk]
theorem ascF_start (l : List Fct) : ascF none l = ascF (prevG l 1) (l.drop 1) := by
  cases l with
  | nil => rfl
  | cons r l => simp [ascF, prevG, okF]
theorem factsFrom_split (rs : List Rel) : ∀ (l : List Fct) (p : Option Fct), factsFrom rs p l = (l.all (validFact rs) && ascF p l)
  | [], _ => rfl
  | r :: l, p => by
    simp only [factsFrom, ascF, List.all_cons, factsFrom_split rs l]
    cases validFact rs r <;> cases okF p r <;> cases l.all (validFact rs) <;> simp
theorem validDb_eq (d : Dbs) : validDb d = ((validRels d.rels && decide (d.facts.length ≤ 14)) && (d.facts.all (validFact d.rels) && ascF none d.facts)) := by
  unfold validDb
  rw [factsFrom_split, Bool.and_comm]

set_option maxHeartbeats 1600000 in
theorem ascFacts_c {a0 : Option Addr} {cap0 : Nat} {l : List Fct} {w : World} (h : At (cSlice cFct) w l [.slice a0 l.length cap0]) :
    Calls Try.prog 42 #[.slice a0 l.length cap0, .func (.func 43) #[] #[]] w fun e w' => e = .returned (.bool (ascF none l)) ∧ Below w.heap.size w w' := by
  have hm := (slice_len h).2
  unfold maxLen at hm
  obtain ⟨n, hn⟩ : ∃ n : Nat, l.length = n := ⟨_, rfl⟩
  have Hr : Hid (∀ w' : World, Below w.heap.size w w' → ∀ j (hj : j < l.length), _) := fun w' hb j hj => at_Fact (Cod.ok_below h hb) j hj
  have Hn := Lib.hid hn
  rw [hn] at hm ⊢
  clear hn h
  generalize hR : ascF none l = R
  rw [ascF_start] at hR
  have HR : Hid (ascF (prevG l 1) (l.drop 1) = R) := hR
  clear hR
  go_enter Try.func42, Try.ntmps42
  go_wp2
  go_loopw [5] (fun iv wr => ∃ k : Nat, (k ≤ n ∨ k = 1) ∧ 1 ≤ k ∧ iv = .int .i64 k ∧ Hid (ascF (prevG l k) (l.drop k) = R) ∧ Below w.heap.size w wr) (fun iv _ => n - (intOf iv).toNat)
  case atStart => exact ⟨1, by omega, by omega, by go_num, HR, Below.refl _ _⟩
  case round =>
    clear HR
    obtain ⟨k, hk, hk1, rfl, Hq, hb⟩ := hrel
    by_cases hlt : k < n
    · have hkl : k < l.length := by rw [Hn.out]; exact hlt
      obtain ⟨j, hj⟩ : ∃ j, k = j + 1 := ⟨k - 1, by omega⟩
      have hjl : j < l.length := by omega
      have hp : okF (prevG l k) l[k] = !decide (cmpF l[j] l[k] ≥ 0) := by subst hj; exact okF_succ l j hjl _
      have Hst := Lib.hid (Hq.out.symm.trans (ascF_step l k hkl))
      rw [hp] at Hst
      obtain ⟨b, off, av, cv, rfl, hbB, c0, c1, hx⟩ := Hr.out _ hb k hkl
      obtain ⟨b', off', av', cv', e', hbB', p0, p1, hxp⟩ := Hr.out _ hb j hjl
      obtain ⟨rfl, rfl⟩ : b = b' ∧ off = off' := by simp at e'; exact e'
      have hA : At cFct wr l[k] [.int .i64 l[k].rel, .slice av l[k].vals.length cv] := cFct.keep hx (fun _ _ => rfl) hb.size
      have hA' : At cFct wr l[j] [.int .i64 l[j].rel, .slice av' l[j].vals.length cv'] := cFct.keep hxp (fun _ _ => rfl) hb.size
      have Hz : Hid (∀ ww, Below wr.heap.size wr ww → Calls Try.prog 43 #[.agg #[.int .i64 l[j].rel, .slice av' l[j].vals.length cv'], .agg #[.int .i64 l[k].rel, .slice av l[k].vals.length cv]] ww fun e w' => e = .returned (.int .i64 (cmpF l[j] l[k])) ∧ Below ww.heap.size ww w') :=
        fun ww hw2 => implCompareFacts_c (At.below hA' hw2 (Nat.le_refl _)) (At.below hA hw2 (Nat.le_refl _))
      have C0 := grow_cell c0
      have C1 := grow_cell c1
      have D0 := grow_cell p0
      have D1 := grow_cell p1
      have hwj : wrap64 ((k : Int) - 1) = (j : Int) := by rw [IntWalk.wrap64_in _ ⟨by omega, by omega⟩]; omega
      have hkj : (k : Int) - 1 = (j : Int) := by omega
      have hjn : (j : Int) < n := by omega
      have Hj := Lib.hid hj
      clear hj e' hxp hx hp hbB' hbB p0 p1 c0 c1 hA hA' Hq
      generalize cmpF l[j] l[k] = z at *
      generalize l[j] = q at *
      generalize l[k] = r at *
      by_cases hz : z ≥ 0
      · have hR : R = false := by have h := Hst.out; rw [decide_eq_true hz, Bool.not_true, Bool.false_and] at h; exact h
        have hzd : decide (z ≥ 0) = true := decide_eq_true hz
        go_wp2_with fail
        refine wp_region_grow (by kernel_rfl) (by kernel_rfl) ?_
        repeat (go_big_quiet_step ((go_at_call 43; exact Calls.grow fun ww h => Hz.out ww h)))
        refine wpQuiet_nil ?_
        rintro _ ⟨nq, rfl⟩
        go_wp2
        go_ret
        exact ⟨by rw [hR]; rfl, hb.trans (nq.below.mono hb.size)⟩
      · have Hs2 : Hid (ascF (prevG l (k + 1)) (l.drop (k + 1)) = R) := by have h := Hst.out; rw [decide_eq_false hz, Bool.not_false, Bool.true_and] at h; exact h.symm
        have hzd : decide (z ≥ 0) = false := decide_eq_false hz
        go_wp2_with fail
        refine wp_region_grow (by kernel_rfl) (by kernel_rfl) ?_
        repeat (go_big_quiet_step ((go_at_call 43; exact Calls.grow fun ww h => Hz.out ww h)))
        refine wpQuiet_nil ?_
        rintro _ ⟨nq, rfl⟩
        go_wp2
        go_roundw
        case rel => exact ⟨k + 1, by omega, by omega, by go_num, Hs2, hb.trans (nq.below.mono hb.size)⟩
        case measure => simp [intOf]; omega
    · have hR : R = true := by
        have := Hq.out
        rw [List.drop_eq_nil_of_le (by rw [Hn.out]; omega)] at this
        exact this.symm
      go_wp2
      go_ret
      exact ⟨by rw [hR]; rfl, hb⟩

set_option maxHeartbeats 3200000 in
theorem implIsValidDatabase_c {a0 a1 : Option Addr} {cap0 cap1 : Nat} {x : Dbs} {w : World} (h : At cDbs w x [.slice a0 x.rels.length cap0, .slice a1 x.facts.length cap1]) :
    Calls Try.prog 29 #[.agg #[.slice a0 x.rels.length cap0, .slice a1 x.facts.length cap1]] w fun e w' => e = .returned (.bool (validDb x)) ∧ Below w.heap.size w w' := by
  rw [validDb_eq]
  have h0 := (cDbs_inv h).1
  have h1 := (cDbs_inv h).2
  have hm := (slice_len h1).2
  unfold maxLen at hm
  have Hr : Hid (∀ w' : World, Below w.heap.size w w' → ∀ j (hj : j < x.facts.length), _) := fun w' hb j hj => at_Fact (Cod.ok_below h1 hb) j hj
  have Hv : Hid (∀ ww, Below w.heap.size w ww → Calls Try.prog 40 #[.slice a0 x.rels.length cap0] ww fun e w' => e = .returned (.bool (validRels x.rels)) ∧ Below ww.heap.size ww w') :=
    fun ww hb => implAreValidRelations_c (At.below h0 hb (Nat.le_refl _))
  have Hs : Hid (∀ ww, Below w.heap.size w ww → Calls Try.prog 42 #[.slice a1 x.facts.length cap1, .func (.func 43) #[] #[]] ww fun e w' => e = .returned (.bool (ascF none x.facts)) ∧ Below ww.heap.size ww w') :=
    fun ww hb => ascFacts_c (At.below h1 hb (Nat.le_refl _))
  have Hf : Hid (∀ ww, Below w.heap.size w ww → ∀ (f : Fct) (a : Option Addr) (c : Nat), At cFct ww f [.int .i64 f.rel, .slice a f.vals.length c] → Calls Try.prog 41 #[.slice a0 x.rels.length cap0, .agg #[.int .i64 f.rel, .slice a f.vals.length c]] ww fun e w' => e = .returned (.bool (validFact x.rels f)) ∧ Below ww.heap.size ww w') :=
    fun ww hb f a c hA => implIsValidFact_c (At.below h0 hb (Nat.le_refl _)) hA
  clear h h0 h1
  obtain ⟨rs, l⟩ := x
  simp only at *
  obtain ⟨n, hn⟩ : ∃ n : Nat, l.length = n := ⟨_, rfl⟩
  obtain ⟨nr, hnr⟩ : ∃ n : Nat, rs.length = n := ⟨_, rfl⟩
  have Hn := Lib.hid hn
  rw [hn] at hm Hs ⊢
  rw [hnr] at Hv Hf ⊢
  clear hn hnr
  generalize validRels rs = V at *
  generalize ascF none l = A at *
  generalize hR : l.all (validFact rs) = R
  have HR : Hid ((l.drop 0).all (validFact rs) = R) := hR
  clear hR
  obtain ⟨wx, hwx⟩ : ∃ wx, wx = w.alloc (Obj.cells #[.slice a0 nr cap0, .slice a1 n cap1] 32) := ⟨_, rfl⟩
  have hb0 : Below w.heap.size w wx := by rw [hwx]; go_grown
  have p0 : wx.cell? ⟨w.heap.size, 0, none⟩ = some (.slice a0 nr cap0) := by rw [hwx]; go_simp
  have p1 : wx.cell? ⟨w.heap.size, 1, none⟩ = some (.slice a1 n cap1) := by rw [hwx]; go_simp
  have Hwx := Lib.hid hwx
  clear hwx
  by_cases h4 : (n : Int) > 14
  · have hd : decide (n ≤ 14) = false := decide_eq_false (by omega)
    rw [hd, Bool.and_false, Bool.false_and]
    cases V with
    | true =>
      go_enter Try.func29, Try.ntmps29
      go_wp2_with fail
      rw [← Hwx.out]
      refine (Hv.out _ hb0).mono ?_
      rintro e w1 ⟨rfl, hb1⟩
      have hbb : Below w.heap.size w w1 := hb0.trans (hb1.mono hb0.size)
      replace p1 := (hb1.cell (World.block_lt_of_cell? wx _ p1)).trans p1
      go_wp2
      go_ret
      exact ⟨rfl, hbb⟩
    | false =>
      go_enter Try.func29, Try.ntmps29
      go_wp2_with fail
      rw [← Hwx.out]
      refine (Hv.out _ hb0).mono ?_
      rintro e w1 ⟨rfl, hb1⟩
      have hbb : Below w.heap.size w w1 := hb0.trans (hb1.mono hb0.size)
      go_wp2
      go_ret
      exact ⟨rfl, hbb⟩
  · have hd : decide (n ≤ 14) = true := decide_eq_true (by omega)
    rw [hd, Bool.and_true]
    cases V with
    | false =>
      rw [Bool.false_and]
      go_enter Try.func29, Try.ntmps29
      go_wp2_with fail
      rw [← Hwx.out]
      refine (Hv.out _ hb0).mono ?_
      rintro e w1 ⟨rfl, hb1⟩
      have hbb : Below w.heap.size w w1 := hb0.trans (hb1.mono hb0.size)
      go_wp2
      go_ret
      exact ⟨rfl, hbb⟩
    | true =>
      rw [Bool.true_and]
      go_enter Try.func29, Try.ntmps29
      go_wp2_with fail
      rw [← Hwx.out]
      refine (Hv.out _ hb0).mono ?_
      rintro e w1 ⟨rfl, hb1⟩
      have hbb : Below w.heap.size w w1 := hb0.trans (hb1.mono hb0.size)
      replace p0 := (hb1.cell (World.block_lt_of_cell? wx _ p0)).trans p0
      replace p1 := (hb1.cell (World.block_lt_of_cell? wx _ p1)).trans p1
      clear hb0 hb1 Hwx
      go_wp2
      go_loopw [18] (fun iv wr => ∃ k : Nat, k ≤ n ∧ iv = .int .i64 k ∧ Hid ((l.drop k).all (validFact rs) = R) ∧ Below w1.heap.size w1 wr) (fun iv _ => n - (intOf iv).toNat)
      case atStart => exact ⟨0, by omega, by go_num, HR, Below.refl _ _⟩
      case round =>
        clear HR
        obtain ⟨k, hk, rfl, Hq, hbx⟩ := hrel
        have q0 := (hbx.cell (World.block_lt_of_cell? w1 _ p0)).trans p0
        have q1 := (hbx.cell (World.block_lt_of_cell? w1 _ p1)).trans p1
        have hb : Below w.heap.size w wr := hbb.trans (hbx.mono hbb.size)
        clear p0 p1
        by_cases hlt : k < n
        · have hkl : k < l.length := by rw [Hn.out]; exact hlt
          have Hst := Lib.hid (Hq.out.symm.trans (all_drop (validFact rs) l k hkl))
          obtain ⟨b, off, av, cv, rfl, hbB, c0, c1, hx⟩ := Hr.out _ hb k hkl
          have hA : At cFct wr l[k] [.int .i64 l[k].rel, .slice av l[k].vals.length cv] := cFct.keep hx (fun _ _ => rfl) hb.size
          have Hc : Hid (∀ ww, Below wr.heap.size wr ww → Calls Try.prog 41 #[.slice a0 nr cap0, .agg #[.int .i64 l[k].rel, .slice av l[k].vals.length cv]] ww fun e w' => e = .returned (.bool (validFact rs l[k])) ∧ Below ww.heap.size ww w') :=
            fun ww hw2 => Hf.out ww (hb.trans (hw2.mono hb.size)) l[k] av cv (At.below hA hw2 (Nat.le_refl _))
          clear hx Hq hA
          generalize validFact rs l[k] = v at *
          generalize l[k] = r at *
          have hlt0 := World.block_lt_of_cell? wr _ q0
          cases v with
          | true =>
            rw [Bool.true_and] at Hst
            go_wp2_with fail
            refine (Hc.out _ ?hb).mono ?_
            case hb => go_grown
            rintro e w2 ⟨rfl, hb2⟩
            have hbr : Below wr.heap.size wr w2 := Below.trans (by go_grown) (hb2.mono (by simp; try omega))
            go_wp2
            go_roundw
            case rel => exact ⟨k + 1, by omega, by go_num, Hst.out.symm, hbx.trans (hbr.mono hbx.size)⟩
            case measure => simp [intOf]; omega
          | false =>
            have hR : R = false := by have h := Hst.out; rw [Bool.false_and] at h; exact h
            go_wp2_with fail
            refine (Hc.out _ ?hb).mono ?_
            case hb => go_grown
            rintro e w2 ⟨rfl, hb2⟩
            have hbr : Below wr.heap.size wr w2 := Below.trans (by go_grown) (hb2.mono (by simp; try omega))
            go_wp2
            go_ret
            exact ⟨by rw [hR]; rfl, hb.trans (hbr.mono hb.size)⟩
        · obtain rfl : k = n := by omega
          have hR : R = true := by
            have := Hq.out
            rw [List.drop_eq_nil_of_le (by rw [Hn.out]; exact Nat.le_refl _)] at this
            exact this.symm
          go_wp2_with fail
          refine (Hs.out _ hb).mono ?_
          rintro e w2 ⟨rfl, hb2⟩
          go_wp2
          go_ret
          exact ⟨by rw [hR]; rfl, hb.trans (hb2.mono hb.size)⟩
end Go.Proofs.Ytbdichnloeijfaa

