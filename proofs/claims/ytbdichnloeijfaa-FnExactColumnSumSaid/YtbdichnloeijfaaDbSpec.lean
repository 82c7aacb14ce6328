/- Chapter 4: the model's functions on databases that hand back plain values. -/
import Derived.Test.YtbdichnloeijfaaFactSpec
namespace Go.Proofs.Ytbdichnloeijfaa
open Go.RowKit
set_option linter.unusedVariables false
set_option maxRecDepth 100000

/-- What stands before place k. -/
def prevG {α : Type} (l : List α) : Nat → Option α
  | 0 => none
  | k + 1 => l[k]?
/-- A fact behind another one. -/
def okF : Option Fct → Fct → Bool
  | none, _ => true
  | some q, x => !decide (cmpF q x ≥ 0)
/-- Valid facts, ascending from a fact on. -/
def factsFrom (rs : List Rel) : Option Fct → List Fct → Bool
  | _, [] => true
  | p, x :: l => validFact rs x && (okF p x && factsFrom rs (some x) l)
/-- A valid database. -/
def validDb (d : Dbs) : Bool := factsFrom d.rels none d.facts && (validRels d.rels && decide (d.facts.length ≤ 14))
theorem factsFrom_step (rs : List Rel) (l : List Fct) (k : Nat) (hk : k < l.length) : factsFrom rs (prevG l k) (l.drop k) = (validFact rs l[k] && (okF (prevG l k) l[k] && factsFrom rs (prevG l (k + 1)) (l.drop (k + 1)))) := by
  rw [List.drop_eq_getElem_cons hk]
  simp [factsFrom, prevG, hk]
theorem okF_succ (l : List Fct) (k : Nat) (hk : k < l.length) (x : Fct) : okF (prevG l (k + 1)) x = !decide (cmpF l[k] x ≥ 0) := by
  simp [prevG, hk, okF]

set_option maxHeartbeats 3200000 in
theorem specIsValidDatabase_c {a0 a1 : Option Addr} {cap0 cap1 : Nat} {x : Dbs} {w : World} (h : At cDbs w x [.slice a0 x.rels.length cap0, .slice a1 x.facts.length cap1]) :
    Calls Try.prog 25 #[.agg #[.slice a0 x.rels.length cap0, .slice a1 x.facts.length cap1]] w fun e w' => e = .returned (.bool (validDb x)) ∧ Below w.heap.size w w' := by
  have h0 := (cDbs_inv h).1
  have h1 := (cDbs_inv h).2
  have hm := (slice_len h1).2
  unfold maxLen at hm
  have Hr : Hid (∀ w' : World, Below w.heap.size w w' → ∀ j (hj : j < x.facts.length), _) := fun w' hb j hj => at_Fact (Cod.ok_below h1 hb) j hj
  have Hv : Hid (∀ ww, Below w.heap.size w ww → Calls Try.prog 39 #[.slice a0 x.rels.length cap0] ww fun e w' => e = .returned (.bool (validRels x.rels)) ∧ Below ww.heap.size ww w') :=
    fun ww hb => specAreValidRelations_c (At.below h0 hb (Nat.le_refl _))
  have Hf : Hid (∀ ww, Below w.heap.size w ww → ∀ (f : Fct) (a : Option Addr) (c : Nat), At cFct ww f [.int .i64 f.rel, .slice a f.vals.length c] → Calls Try.prog 37 #[.slice a0 x.rels.length cap0, .agg #[.int .i64 f.rel, .slice a f.vals.length c]] ww fun e w' => e = .returned (.bool (validFact x.rels f)) ∧ Below ww.heap.size ww w') :=
    fun ww hb f a c hA => specIsValidFact_c (At.below h0 hb (Nat.le_refl _)) hA
  clear h h0 h1
  obtain ⟨rs, l⟩ := x
  simp only [validDb] at *
  obtain ⟨n, hn⟩ : ∃ n : Nat, l.length = n := ⟨_, rfl⟩
  obtain ⟨nr, hnr⟩ : ∃ n : Nat, rs.length = n := ⟨_, rfl⟩
  have Hn := Lib.hid hn
  rw [hn] at hm ⊢
  rw [hnr] at Hv Hf ⊢
  clear hn hnr
  generalize validRels rs = V at *
  generalize hR : factsFrom rs none l = R
  have HR : Hid (factsFrom rs (prevG l 0) (l.drop 0) = R) := hR
  clear hR
  go_enter Try.func25, Try.ntmps25
  go_wp2_with fail
  obtain ⟨wx, hwx⟩ : ∃ wx, wx = w.alloc (Obj.cells #[.slice a0 nr cap0, .slice a1 n cap1] 32) := ⟨_, rfl⟩
  rw [← hwx]
  have hb0 : Below w.heap.size w wx := by rw [hwx]; go_grown
  have p0 : wx.cell? ⟨w.heap.size, 0, none⟩ = some (.slice a0 nr cap0) := by rw [hwx]; go_simp
  have p1 : wx.cell? ⟨w.heap.size, 1, none⟩ = some (.slice a1 n cap1) := by rw [hwx]; go_simp
  clear hwx
  go_loopw [3] (fun iv wr => ∃ k : Nat, k ≤ n ∧ iv = .int .i64 k ∧ Hid (factsFrom rs (prevG l k) (l.drop k) = R) ∧ Below wx.heap.size wx wr) (fun iv _ => n - (intOf iv).toNat)
  case atStart => exact ⟨0, by omega, by go_num, HR, Below.refl _ _⟩
  case round =>
    clear HR
    obtain ⟨k, hk, rfl, Hq, hbx⟩ := hrel
    have q0 := (hbx.cell (World.block_lt_of_cell? wx _ p0)).trans p0
    have q1 := (hbx.cell (World.block_lt_of_cell? wx _ p1)).trans p1
    have hb : Below w.heap.size w wr := hb0.trans (hbx.mono hb0.size)
    clear p0 p1
    by_cases hlt : k < n
    · have hkl : k < l.length := by rw [Hn.out]; exact hlt
      have Hst := Lib.hid (Hq.out.symm.trans (factsFrom_step rs l k hkl))
      obtain ⟨b, off, av, cv, rfl, hbB, c0, c1, hx⟩ := Hr.out _ hb k hkl
      have hA : At cFct wr l[k] [.int .i64 l[k].rel, .slice av l[k].vals.length cv] := cFct.keep hx (fun _ _ => rfl) hb.size
      have Hc : Hid (∀ ww, Below wr.heap.size wr ww → Calls Try.prog 37 #[.slice a0 nr cap0, .agg #[.int .i64 l[k].rel, .slice av l[k].vals.length cv]] ww fun e w' => e = .returned (.bool (validFact rs l[k])) ∧ Below ww.heap.size ww w') :=
        fun ww hw2 => Hf.out ww (hb.trans (hw2.mono hb.size)) l[k] av cv (At.below hA hw2 (Nat.le_refl _))
      have C0 := grow_cell c0
      have C1 := grow_cell c1
      have Q0 := grow_cell q0
      have Q1 := grow_cell q1
      clear hx Hq c0 c1
      generalize validFact rs l[k] = v at *
      rcases Nat.eq_zero_or_pos k with hk0 | hk0
      · have hg : decide ((0 : Int) < (k : Int)) = false := decide_eq_false (by omega)
        have hg2 : decide (0 < k) = false := decide_eq_false (by omega)
        have hp : okF (prevG l k) l[k] = true := by subst hk0; rfl
        rw [hp, Bool.true_and] at Hst
        clear hp hk0 hA
        generalize l[k] = r at *
        cases v with
        | true =>
          go_wp2_with fail
          refine wp_region_grow (by kernel_rfl) (by kernel_rfl) ?_
          repeat (go_big_quiet_step ((go_at_call 37; exact Calls.grow fun ww h => Hc.out ww h)))
          refine wpQuiet_nil ?_
          rintro _ ⟨nq, rfl⟩
          go_wp2
          go_roundw
          case rel => exact ⟨k + 1, by omega, by go_num, by have h := Hst.out; rw [Bool.true_and] at h; exact h.symm, hbx.trans (nq.below.mono hbx.size)⟩
          case measure => simp [intOf]; omega
        | false =>
          have hR : R = false := by have h := Hst.out; rw [Bool.false_and] at h; exact h
          go_wp2_with fail
          refine wp_region_grow (by kernel_rfl) (by kernel_rfl) ?_
          repeat (go_big_quiet_step ((go_at_call 37; exact Calls.grow fun ww h => Hc.out ww h)))
          refine wpQuiet_nil ?_
          rintro _ ⟨nq, rfl⟩
          go_wp2
          go_ret
          exact ⟨by rw [hR]; rfl, hb.trans (nq.below.mono hb.size)⟩
      · have hg : decide ((0 : Int) < (k : Int)) = true := decide_eq_true (by omega)
        have hg2 : decide (0 < k) = true := decide_eq_true (by omega)
        obtain ⟨j, hj⟩ : ∃ j, k = j + 1 := ⟨k - 1, by omega⟩
        have hjl : j < l.length := by omega
        have hp : okF (prevG l k) l[k] = !decide (cmpF l[j] l[k] ≥ 0) := by subst hj; exact okF_succ l j hjl _
        rw [hp] at Hst
        clear hp hk0
        obtain ⟨b', off', av', cv', e', hbB', d0, d1, hxp⟩ := Hr.out _ hb j hjl
        obtain ⟨rfl, rfl⟩ : b = b' ∧ off = off' := by simp at e'; exact e'
        have hA' : At cFct wr l[j] [.int .i64 l[j].rel, .slice av' l[j].vals.length cv'] := cFct.keep hxp (fun _ _ => rfl) hb.size
        have Hz : Hid (∀ ww, Below wr.heap.size wr ww → Calls Try.prog 38 #[.agg #[.int .i64 l[j].rel, .slice av' l[j].vals.length cv'], .agg #[.int .i64 l[k].rel, .slice av l[k].vals.length cv]] ww fun e w' => e = .returned (.int .i64 (cmpF l[j] l[k])) ∧ Below ww.heap.size ww w') :=
          fun ww hw2 => specCompareFacts_c (At.below hA' hw2 (Nat.le_refl _)) (At.below hA hw2 (Nat.le_refl _))
        have hwj : wrap64 ((k : Int) - 1) = (j : Int) := by rw [IntWalk.wrap64_in _ ⟨by omega, by omega⟩]; omega
        have hkj : (k : Int) - 1 = (j : Int) := by omega
        have D0 := grow_cell d0
        have D1 := grow_cell d1
        have hjn : (j : Int) < n := by omega
        have Hj := Lib.hid hj
        clear hj e' hxp hbB' d0 d1 hA hA'
        generalize cmpF l[j] l[k] = z at *
        generalize l[j] = q at *
        generalize l[k] = r at *
        cases v with
        | true =>
          rw [Bool.true_and] at Hst
          by_cases hz : z ≥ 0
          · have hR : R = false := by have h := Hst.out; rw [decide_eq_true hz, Bool.not_true, Bool.false_and] at h; exact h
            have hzd : decide (z ≥ 0) = true := decide_eq_true hz
            go_wp2_with fail
            refine wp_region_grow (by kernel_rfl) (by kernel_rfl) ?_
            repeat (go_big_quiet_step (first | (go_at_call 37; exact Calls.grow fun ww h => Hc.out ww h) | (go_at_call 38; exact Calls.grow fun ww h => Hz.out ww h)))
            refine wpQuiet_nil ?_
            rintro _ ⟨nq, rfl⟩
            go_wp2
            go_ret
            exact ⟨by rw [hR]; rfl, hb.trans (nq.below.mono hb.size)⟩
          · have Hs2 : Hid (factsFrom rs (prevG l (k + 1)) (l.drop (k + 1)) = R) := by have h := Hst.out; rw [decide_eq_false hz, Bool.not_false, Bool.true_and] at h; exact h.symm
            have hzd : decide (z ≥ 0) = false := decide_eq_false hz
            go_wp2_with fail
            refine wp_region_grow (by kernel_rfl) (by kernel_rfl) ?_
            repeat (go_big_quiet_step (first | (go_at_call 37; exact Calls.grow fun ww h => Hc.out ww h) | (go_at_call 38; exact Calls.grow fun ww h => Hz.out ww h)))
            refine wpQuiet_nil ?_
            rintro _ ⟨nq, rfl⟩
            go_wp2
            go_roundw
            case rel => exact ⟨k + 1, by omega, by go_num, Hs2, hbx.trans (nq.below.mono hbx.size)⟩
            case measure => simp [intOf]; omega
        | false =>
          have hR : R = false := by have h := Hst.out; rw [Bool.false_and] at h; exact h
          go_wp2_with fail
          refine wp_region_grow (by kernel_rfl) (by kernel_rfl) ?_
          repeat (go_big_quiet_step ((go_at_call 37; exact Calls.grow fun ww h => Hc.out ww h)))
          refine wpQuiet_nil ?_
          rintro _ ⟨nq, rfl⟩
          go_wp2
          go_ret
          exact ⟨by rw [hR]; rfl, hb.trans (nq.below.mono hb.size)⟩
    · obtain rfl : k = n := by omega
      have hR : R = true := by
        have := Hq.out
        rw [List.drop_eq_nil_of_le (by rw [Hn.out]; exact Nat.le_refl _)] at this
        exact this.symm
      go_wp2_with fail
      refine (Hv.out _ hb).mono ?_
      rintro e w1 ⟨rfl, hb1⟩
      have hbb : Below w.heap.size w w1 := hb.trans (hb1.mono hb.size)
      replace q1 := (hb1.cell (World.block_lt_of_cell? wr _ q1)).trans q1
      cases V with
      | true =>
        by_cases h4 : (k : Int) ≤ 14
        · go_wp2
          go_ret
          exact ⟨by show Ending.returned (.bool _) = _; rw [hR]; simp; omega, hbb⟩
        · go_wp2
          go_ret
          exact ⟨by show Ending.returned (.bool _) = _; rw [hR]; simp; omega, hbb⟩
      | false =>
        go_wp2
        go_ret
        exact ⟨by rw [hR]; rfl, hbb⟩
end Go.Proofs.Ytbdichnloeijfaa

