/- Chapter 3: the program's functions on facts that hand back plain values. -/
import Derived.Test.YtbdichnloeijfaaFactSpec
import Derived.Test.YtbdichnloeijfaaRelImpl3
namespace Go.Proofs.Ytbdichnloeijfaa
open Go.RowKit
set_option linter.unusedVariables false
set_option maxRecDepth 100000

set_option maxHeartbeats 1600000 in
theorem sliceCompare_c {a a' : Option Addr} {cap cap' : Nat} {l m : List Int} {w : World} (h : At (cSlice cInt) w l [.slice a l.length cap]) (h' : At (cSlice cInt) w m [.slice a' m.length cap']) :
    Calls Try.prog 53 #[.slice a l.length cap, .slice a' m.length cap'] w fun e w' => e = .returned (.int .i64 (cmpL l m)) ∧ Below w.heap.size w w' := by
  have hm := (slice_len h).2
  have hm' := (slice_len h').2
  unfold maxLen at hm hm'
  have Hr : Hid (∀ w' : World, Below w.heap.size w w' → ∀ j (hj : j < l.length), _) := fun w' hb j hj => ints_at (Cod.ok_below h hb) j hj
  have Hr' : Hid (∀ w' : World, Below w.heap.size w w' → ∀ j (hj : j < m.length), _) := fun w' hb j hj => ints_at (Cod.ok_below h' hb) j hj
  clear h h'
  obtain ⟨n, hn⟩ : ∃ n : Nat, l.length = n := ⟨_, rfl⟩
  obtain ⟨n', hn'⟩ : ∃ n : Nat, m.length = n := ⟨_, rfl⟩
  have Hn := Lib.hid hn
  have Hn' := Lib.hid hn'
  rw [hn] at hm ⊢
  rw [hn'] at hm' ⊢
  clear hn hn'
  generalize hR : cmpL l m = R
  have HR : Hid (cmpL (l.drop 0) (m.drop 0) = R) := hR
  clear hR
  go_enter Try.func53, Try.ntmps53
  go_wp2
  go_loopw [11] (fun iv wr => ∃ k : Nat, k ≤ n ∧ k ≤ n' ∧ iv = .int .i64 k ∧ Hid (cmpL (l.drop k) (m.drop k) = R) ∧ Below w.heap.size w wr) (fun iv _ => n - (intOf iv).toNat)
  case atStart => exact ⟨0, by omega, by omega, by go_num, HR, Below.refl _ _⟩
  case round =>
    clear HR
    obtain ⟨k, hk, hk', rfl, Hq, hb⟩ := hrel
    by_cases h1 : k < n
    · have hkl : k < l.length := by rw [Hn.out]; exact h1
      obtain ⟨b, off, rfl, hbB, c0⟩ := Hr.out _ hb k hkl
      by_cases h2 : k < n'
      · have hkm : k < m.length := by rw [Hn'.out]; exact h2
        have Hst := Lib.hid (Hq.out.symm.trans (cmpL_step l m k hkl hkm))
        obtain ⟨b', off', rfl, hbB', c0'⟩ := Hr'.out _ hb k hkm
        have Hz : Hid (∀ ww, Calls Try.prog 45 #[.int .i64 l[k], .int .i64 m[k]] ww fun e w' => e = .returned (.int .i64 (Lib.compareInt l[k] m[k])) ∧ w' = ww) := fun ww => Try.cmp_Compare_int _ _ _
        have hz : Lib.compareInt l[k] m[k] = if l[k] < m[k] then -1 else if m[k] < l[k] then 1 else 0 := rfl
        clear Hq
        generalize Lib.compareInt l[k] m[k] = z at *
        generalize l[k] = r at *
        generalize m[k] = r' at *
        by_cases hd : r < r'
        · have hR : R = -1 := by have := Hst.out; rw [if_pos hd] at this; exact this
          rw [if_pos hd] at hz
          subst hz
          go_wp2_with (go_at_call 45; refine (Hz.out _).mono ?_; rintro e w' ⟨rfl, rfl⟩)
          go_ret
          exact ⟨by rw [hR]; rfl, hb⟩
        · rw [if_neg hd] at hz
          by_cases hd2 : r' < r
          · have hR : R = 1 := by have := Hst.out; rw [if_neg hd, if_pos hd2] at this; exact this
            rw [if_pos hd2] at hz
            subst hz
            go_wp2_with (go_at_call 45; refine (Hz.out _).mono ?_; rintro e w' ⟨rfl, rfl⟩)
            go_ret
            exact ⟨by rw [hR]; rfl, hb⟩
          · have Hs2 : Hid (cmpL (l.drop (k + 1)) (m.drop (k + 1)) = R) := by have := Hst.out; rw [if_neg hd, if_neg hd2] at this; exact this.symm
            rw [if_neg hd2] at hz
            subst hz
            go_wp2_with (go_at_call 45; refine (Hz.out _).mono ?_; rintro e w' ⟨rfl, rfl⟩)
            go_roundw
            case rel => exact ⟨k + 1, by omega, by omega, by go_num, Hs2, hb⟩
            case measure => simp [intOf]; omega
      · have he := (cmpL_end l m k (by rw [Hn.out]; exact hk) (by rw [Hn'.out]; exact hk') (by rw [Hn.out, Hn'.out]; omega)).symm.trans Hq.out
        rw [Hn.out, Hn'.out] at he
        have hR : R = 1 := by rw [if_neg (by omega), if_pos (by omega)] at he; exact he.symm
        clear he Hq
        go_wp2_with fail
        go_ret
        exact ⟨by rw [hR]; rfl, hb⟩
    · have he := (cmpL_end l m k (by rw [Hn.out]; exact hk) (by rw [Hn'.out]; exact hk') (by rw [Hn.out, Hn'.out]; omega)).symm.trans Hq.out
      rw [Hn.out, Hn'.out] at he
      obtain rfl : k = n := by omega
      by_cases h3 : k < n'
      · have hR : R = -1 := by rw [if_pos (by omega)] at he; exact he.symm
        clear he Hq
        go_wp2_with fail
        go_ret
        exact ⟨by rw [hR]; rfl, hb⟩
      · have hR : R = 0 := by rw [if_neg (by omega), if_neg (by omega)] at he; exact he.symm
        clear he Hq
        go_wp2_with fail
        go_ret
        exact ⟨by rw [hR]; rfl, hb⟩

set_option maxHeartbeats 800000 in
theorem implCompareFacts_c {a1 a1' : Option Addr} {cap1 cap1' : Nat} {x y : Fct} {w : World} (h : At cFct w x [.int .i64 x.rel, .slice a1 x.vals.length cap1]) (h' : At cFct w y [.int .i64 y.rel, .slice a1' y.vals.length cap1']) :
    Calls Try.prog 43 #[.agg #[.int .i64 x.rel, .slice a1 x.vals.length cap1], .agg #[.int .i64 y.rel, .slice a1' y.vals.length cap1']] w fun e w' => e = .returned (.int .i64 (cmpF x y)) ∧ Below w.heap.size w w' := by
  have h1 := (cFct_inv h).1
  have h2 := (cFct_inv h').1
  have H1 : Hid (∀ ww, Below w.heap.size w ww → Calls Try.prog 53 #[.slice a1 x.vals.length cap1, .slice a1' y.vals.length cap1'] ww fun e w' => e = .returned (.int .i64 (cmpL x.vals y.vals)) ∧ Below ww.heap.size ww w') :=
    fun ww hb => sliceCompare_c (At.below (c := cSlice cInt) h1 hb (Nat.le_refl _)) (At.below (c := cSlice cInt) h2 hb (Nat.le_refl _))
  have H2 : Hid (∀ ww, Calls Try.prog 45 #[.int .i64 x.rel, .int .i64 y.rel] ww fun e w' => e = .returned (.int .i64 (Lib.compareInt x.rel y.rel)) ∧ w' = ww) := fun ww => Try.cmp_Compare_int _ _ _
  clear h h1 h' h2
  unfold cmpF
  obtain ⟨r, l⟩ := x
  obtain ⟨r', l'⟩ := y
  simp only at *
  have hz : Lib.compareInt r r' = if r < r' then -1 else if r' < r then 1 else 0 := rfl
  generalize Lib.compareInt r r' = c at *
  generalize cmpL l l' = z at *
  by_cases hr : r = r'
  · subst hr
    rw [if_neg (by omega), if_neg (by omega)]
    have hd : (r != r) = false := by simp
    go_enter Try.func43, Try.ntmps43
    go_wp2_with fail
    refine (H1.out _ ?hb).mono ?_
    case hb => go_grown
    rintro e w1 ⟨rfl, hb1⟩
    have hbb : Below w.heap.size w w1 := Below.trans (by go_grown) (hb1.mono (by simp; try omega))
    go_wp2
    go_ret
    exact ⟨rfl, hbb⟩
  · have hz2 : c = if r < r' then -1 else if r' < r then 1 else z := by
      rw [hz]; by_cases h1 : r < r'
      · rw [if_pos h1, if_pos h1]
      · rw [if_neg h1, if_neg h1, if_pos (by omega), if_pos (by omega)]
    rw [← hz2]
    clear hz hz2
    have hd : (r != r') = true := by simp [hr]
    go_enter Try.func43, Try.ntmps43
    go_wp2_with (go_at_call 45; refine (H2.out _).mono ?_; rintro e w' ⟨rfl, rfl⟩)
    go_ret
    exact ⟨rfl, by go_grown⟩

theorem isIndex_any (i : Int) (n : Nat) (w : World) :
    Calls Try.prog 33 #[.int .i64 i, .int .i64 n] w fun e w' => e = .returned (.bool (inB i 0 ((n : Int) - 1))) ∧ w = w' := by
  unfold inB
  have e : decide (i ≤ (n : Int) - 1) = decide (i < (n : Int)) := by simp; omega
  rw [e]
  clear e
  by_cases h : 0 ≤ i
  · go_enter Try.func33, Try.ntmps33
    go_wp2
    go_ret
    exact ⟨by simp; try omega, rfl⟩
  · go_enter Try.func33, Try.ntmps33
    go_wp2
    go_ret
    exact ⟨by simp; try omega, rfl⟩
theorem isValue_any (i : Int) (w : World) :
    Calls Try.prog 52 #[.int .i64 i] w fun e w' => e = .returned (.bool (inB i 0 9)) ∧ w = w' := by
  unfold inB
  by_cases h : 0 ≤ i
  · go_enter Try.func52, Try.ntmps52
    go_wp2
    go_ret
    exact ⟨by simp; try omega, rfl⟩
  · go_enter Try.func52, Try.ntmps52
    go_wp2
    go_ret
    exact ⟨by simp; try omega, rfl⟩
end Go.Proofs.Ytbdichnloeijfaa

