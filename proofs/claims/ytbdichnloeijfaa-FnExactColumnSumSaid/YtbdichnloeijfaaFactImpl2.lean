/- Chapter 3: the program's IsValidFact. -/
import Derived.Test.YtbdichnloeijfaaFactImpl
namespace Go.Proofs.Ytbdichnloeijfaa
open Go.RowKit
set_option linter.unusedVariables false
set_option maxRecDepth 100000

set_option maxHeartbeats 1600000 in
theorem implIsValidFact_c {a0 a1 : Option Addr} {cap0 cap1 : Nat} {l : List Rel} {x : Fct} {w : World} (h : At (cSlice cRel) w l [.slice a0 l.length cap0]) (h' : At cFct w x [.int .i64 x.rel, .slice a1 x.vals.length cap1]) :
    Calls Try.prog 41 #[.slice a0 l.length cap0, .agg #[.int .i64 x.rel, .slice a1 x.vals.length cap1]] w fun e w' => e = .returned (.bool (validFact l x)) ∧ Below w.heap.size w w' := by
  have hm := (slice_len h).2
  have h1 := (cFct_inv h').1
  have hm1 := (slice_len h1).2
  unfold maxLen at hm hm1
  have Hr : Hid (∀ w' : World, Below w.heap.size w w' → ∀ j (hj : j < l.length), _) := fun w' hb j hj => at_Relation (Cod.ok_below h hb) j hj
  have Hi : Hid (∀ w' : World, Below w.heap.size w w' → ∀ j (hj : j < x.vals.length), _) := fun w' hb j hj => ints_at (Cod.ok_below h1 hb) j hj
  have Hc : Hid (∀ ww, Below w.heap.size w ww → Calls Try.prog 40 #[.slice a0 l.length cap0] ww fun e w' => e = .returned (.bool (validRels l)) ∧ Below ww.heap.size ww w') :=
    fun ww hb => implAreValidRelations_c (At.below h hb (Nat.le_refl _))
  clear h h' h1
  unfold validFact
  obtain ⟨n, hn⟩ : ∃ n : Nat, l.length = n := ⟨_, rfl⟩
  have Hn := Lib.hid hn
  rw [hn] at hm Hc ⊢
  clear hn
  obtain ⟨r, v⟩ := x
  simp only at *
  obtain ⟨nv, hnv⟩ : ∃ n : Nat, v.length = n := ⟨_, rfl⟩
  have Hnv := Lib.hid hnv
  rw [hnv] at hm1 ⊢
  clear hnv
  have Hl : Hid (∀ ww, Calls Try.prog 33 #[.int .i64 r, .int .i64 n] ww fun e w' => e = .returned (.bool (inB r 0 ((n : Int) - 1))) ∧ ww = w') := fun ww => isIndex_any _ _ _
  have hI : inB r 0 ((n : Int) - 1) = true → 0 ≤ r ∧ r ≤ (n : Int) - 1 := by unfold inB; simp
  generalize validRels l = V at *
  generalize inB r 0 ((n : Int) - 1) = I at *
  cases V with
  | false =>
    rw [Bool.false_and]
    go_enter Try.func41, Try.ntmps41
    go_wp2_with fail
    refine (Hc.out _ ?hb).mono ?_
    case hb => go_grown
    rintro e w1 ⟨rfl, hb1⟩
    have hbb : Below w.heap.size w w1 := Below.trans (by go_grown) (hb1.mono (by simp; try omega))
    go_wp2
    go_ret
    exact ⟨rfl, hbb⟩
  | true =>
    rw [Bool.true_and]
    cases I with
    | false =>
      rw [Bool.false_and]
      go_enter Try.func41, Try.ntmps41
      go_wp2_with fail
      obtain ⟨wx, hwx⟩ : ∃ wx, wx = w.alloc (Obj.cells #[.int .i64 r, .slice a1 nv cap1] 43) := ⟨_, rfl⟩
      rw [← hwx]
      have hb0 : Below w.heap.size w wx := by rw [hwx]; go_grown
      have p0 : wx.cell? ⟨w.heap.size, 0, none⟩ = some (.int .i64 r) := by rw [hwx]; go_simp
      clear hwx
      refine (Hc.out _ hb0).mono ?_
      rintro e w1 ⟨rfl, hb1⟩
      have hbb : Below w.heap.size w w1 := hb0.trans (hb1.mono hb0.size)
      replace p0 := (hb1.cell (World.block_lt_of_cell? wx _ p0)).trans p0
      go_wp2_with (go_at_call 33; refine (Hl.out _).mono ?_; rintro e w' ⟨rfl, rfl⟩)
      go_ret
      exact ⟨rfl, hbb⟩
    | true =>
      rw [Bool.true_and]
      obtain ⟨hr0, hr1⟩ := hI rfl
      clear hI
      obtain ⟨k, rfl⟩ := Int.eq_ofNat_of_zero_le hr0
      have hk : k < n := by omega
      have hkl : k < l.length := by rw [Hn.out]; exact hk
      have har : arityAt l (k : Int) = l[k].arity := by unfold arityAt; simp [hkl]
      rw [har]
      clear har
      generalize hR : allIn v = R
      have HR : Hid (allIn (v.drop 0) = R) := hR
      clear hR
      obtain ⟨Q, hQ⟩ : ∃ Q : Bool, decide ((nv : Int) = l[k].arity) = Q := ⟨_, rfl⟩
      rw [hQ]
      have hne : ((nv : Int) != l[k].arity) = !Q := by rw [← hQ]; by_cases h : (nv : Int) = l[k].arity <;> simp [h]
      clear hQ
      go_enter Try.func41, Try.ntmps41
      go_wp2_with fail
      obtain ⟨wx, hwx⟩ : ∃ wx, wx = w.alloc (Obj.cells #[.int .i64 (k : Int), .slice a1 nv cap1] 43) := ⟨_, rfl⟩
      rw [← hwx]
      have hb0 : Below w.heap.size w wx := by rw [hwx]; go_grown
      have p0 : wx.cell? ⟨w.heap.size, 0, none⟩ = some (.int .i64 (k : Int)) := by rw [hwx]; go_simp
      have p1 : wx.cell? ⟨w.heap.size, 1, none⟩ = some (.slice a1 nv cap1) := by rw [hwx]; go_simp
      clear hwx
      refine (Hc.out _ hb0).mono ?_
      rintro e w1 ⟨rfl, hb1⟩
      have hbb : Below w.heap.size w w1 := hb0.trans (hb1.mono hb0.size)
      replace p0 := (hb1.cell (World.block_lt_of_cell? wx _ p0)).trans p0
      replace p1 := (hb1.cell (World.block_lt_of_cell? wx _ p1)).trans p1
      clear hb0 hb1
      obtain ⟨b, off, rfl, hbB, c0, c1, c2, hx⟩ := Hr.out _ hbb k hkl
      have P0 := grow_cell p0
      have P1 := grow_cell p1
      have C1 := grow_cell c1
      clear c0 c1 c2 hx
      generalize l[k] = q at *
      cases Q with
      | false =>
        rw [Bool.not_false] at hne
        go_wp2_with (go_at_call 33; refine (Hl.out _).mono ?_; rintro e w' ⟨rfl, rfl⟩)
        refine wp_region_grow (by kernel_rfl) (by kernel_rfl) ?_
        repeat (go_big_quiet_step (fail))
        refine wpQuiet_nil ?_
        rintro _ ⟨nq, rfl⟩
        have hbb2 : Below w.heap.size w nq.W := hbb.trans (nq.below.mono hbb.size)
        go_wp2
        go_ret
        exact ⟨rfl, hbb2⟩
      | true =>
        rw [Bool.not_true] at hne
        go_wp2_with (go_at_call 33; refine (Hl.out _).mono ?_; rintro e w' ⟨rfl, rfl⟩)
        refine wp_region_grow (by kernel_rfl) (by kernel_rfl) ?_
        repeat (go_big_quiet_step (fail))
        refine wpQuiet_nil ?_
        rintro _ ⟨nq, rfl⟩
        have hbb2 : Below w.heap.size w nq.W := hbb.trans (nq.below.mono hbb.size)
        have q1 := P1 nq
        have hlt := World.block_lt_of_cell? nq.W _ q1
        go_wp2
        go_loopw [31] (fun iv wr => ∃ k : Nat, k ≤ nv ∧ iv = .int .i64 k ∧ Hid (allIn (v.drop k) = R) ∧ Below nq.W.heap.size nq.W wr) (fun iv _ => nv - (intOf iv).toNat)
        case atStart => exact ⟨0, by omega, by go_num, HR, Below.refl _ _⟩
        case round =>
          clear HR
          obtain ⟨j, hj, rfl, Hq, hb⟩ := hrel
          have hbw : Below w.heap.size w wr := hbb2.trans (hb.mono hbb2.size)
          by_cases hjn : j < nv
          · have hjl : j < v.length := by rw [Hnv.out]; exact hjn
            obtain ⟨b', off', rfl, hbB', d0⟩ := Hi.out _ hbw j hjl
            have Hst := Lib.hid (Hq.out.symm.trans (allIn_step v j hjl))
            clear Hq
            generalize v[j] = z at *
            have Hz : Hid (∀ ww, Calls Try.prog 52 #[.int .i64 z] ww fun e w' => e = .returned (.bool (inB z 0 9)) ∧ ww = w') := fun ww => isValue_any _ _
            generalize inB z 0 9 = J at *
            cases J with
            | true =>
              rw [Bool.true_and] at Hst
              go_wp2_with (go_at_call 52; refine (Hz.out _).mono ?_; rintro e w' ⟨rfl, rfl⟩)
              go_roundw
              case rel => exact ⟨j + 1, by omega, by go_num, Hst.out.symm, hb⟩
              case measure => simp [intOf]; omega
            | false =>
              have hR : R = false := by have := Hst.out; rw [Bool.false_and] at this; exact this
              go_wp2_with (go_at_call 52; refine (Hz.out _).mono ?_; rintro e w' ⟨rfl, rfl⟩)
              go_ret
              exact ⟨by rw [hR]; rfl, hbw⟩
          · obtain rfl : j = nv := by omega
            have hR : R = true := by
              have := Hq.out
              rw [List.drop_eq_nil_of_le (by rw [Hnv.out]; exact Nat.le_refl _)] at this
              exact this.symm
            go_wp2
            go_ret
            exact ⟨by rw [hR]; rfl, hbw⟩
end Go.Proofs.Ytbdichnloeijfaa

