/- Chapter 3: the model's functions on facts that hand back plain values. -/
import Derived.Test.YtbdichnloeijfaaTyTwo
import Derived.Test.YtbdichnloeijfaaRelSpec2
namespace Go.Proofs.Ytbdichnloeijfaa
open Go.RowKit
set_option linter.unusedVariables false
set_option maxRecDepth 100000

/-- Two lists of numbers compared: by the first place at which they differ, then by their lengths. -/
def cmpL : List Int → List Int → Int
  | [], [] => 0
  | [], _ :: _ => -1
  | _ :: _, [] => 1
  | a :: l, b :: m => if a < b then -1 else if b < a then 1 else cmpL l m
theorem cmpL_step (l m : List Int) (k : Nat) (h1 : k < l.length) (h2 : k < m.length) : cmpL (l.drop k) (m.drop k) = if l[k] < m[k] then -1 else if m[k] < l[k] then 1 else cmpL (l.drop (k + 1)) (m.drop (k + 1)) := by
  rw [List.drop_eq_getElem_cons h1, List.drop_eq_getElem_cons h2]; rfl
theorem cmpL_end (l m : List Int) (k : Nat) (h1 : k ≤ l.length) (h2 : k ≤ m.length) (h : ¬ (k < l.length ∧ k < m.length)) : cmpL (l.drop k) (m.drop k) = if l.length < m.length then -1 else if m.length < l.length then 1 else 0 := by
  by_cases hl : k < l.length
  · have hm : k = m.length := by omega
    subst hm
    rw [List.drop_eq_getElem_cons hl, List.drop_length]
    rw [if_neg (by omega), if_pos hl]; rfl
  · have hl2 : k = l.length := by omega
    subst hl2
    rw [List.drop_length]
    by_cases hm : l.length < m.length
    · rw [List.drop_eq_getElem_cons hm, if_pos hm]; rfl
    · have : m.drop l.length = [] := List.drop_eq_nil_of_le (by omega)
      rw [this, if_neg hm, if_neg (by omega)]; rfl
set_option maxHeartbeats 800000 in
theorem specl3Ints_c {a a' : Option Addr} {cap cap' : Nat} {l m : List Int} {w : World} (h : At (cSlice cInt) w l [.slice a l.length cap]) (h' : At (cSlice cInt) w m [.slice a' m.length cap']) :
    Calls Try.prog 47 #[.slice a l.length cap, .slice a' m.length cap'] w fun e w' => e = .returned (.int .i64 (cmpL l m)) ∧ Below w.heap.size w w' := by
  have hm := (slice_len h).2
  have hm' := (slice_len h').2
  unfold maxLen at hm hm'
  have Hr : Hid (∀ w' : World, Below w.heap.size w w' → ∀ j (hj : j < l.length), _) := fun w' hb j hj => ints_at (Cod.ok_below h hb) j hj
  have Hr' : Hid (∀ w' : World, Below w.heap.size w w' → ∀ j (hj : j < m.length), _) := fun w' hb j hj => ints_at (Cod.ok_below h' hb) j hj
  clear h h'
  obtain ⟨n, hn⟩ : ∃ n : Nat, l.length = n := ⟨_, rfl⟩
  obtain ⟨n', hn'⟩ : ∃ n : Nat, m.length = n := ⟨_, rfl⟩
  have Hn := Lib.hid hn
  have Hn' := Lib.hid hn'
  rw [hn] at hm ⊢
  rw [hn'] at hm' ⊢
  clear hn hn'
  generalize hR : cmpL l m = R
  have HR : Hid (cmpL (l.drop 0) (m.drop 0) = R) := hR
  clear hR
  go_enter Try.func47, Try.ntmps47
  go_wp2
  go_loopw [5] (fun iv wr => ∃ k : Nat, k ≤ n ∧ k ≤ n' ∧ iv = .int .i64 k ∧ Hid (cmpL (l.drop k) (m.drop k) = R) ∧ Below w.heap.size w wr) (fun iv _ => n - (intOf iv).toNat)
  case atStart => exact ⟨0, by omega, by omega, by go_num, HR, Below.refl _ _⟩
  case round =>
    clear HR
    obtain ⟨k, hk, hk', rfl, Hq, hb⟩ := hrel
    by_cases hlt : k < n ∧ k < n'
    · obtain ⟨h1, h2⟩ := hlt
      have hkl : k < l.length := by rw [Hn.out]; exact h1
      have hkm : k < m.length := by rw [Hn'.out]; exact h2
      have Hst := Lib.hid (Hq.out.symm.trans (cmpL_step l m k hkl hkm))
      obtain ⟨b, off, rfl, hbB, c0⟩ := Hr.out _ hb k hkl
      obtain ⟨b', off', rfl, hbB', c0'⟩ := Hr'.out _ hb k hkm
      have hg : decide ((k : Int) < (n : Int)) = true := decide_eq_true (by omega)
      have hg' : decide ((k : Int) < (n' : Int)) = true := decide_eq_true (by omega)
      clear Hq
      generalize l[k] = r at *
      generalize m[k] = r' at *
      by_cases hd : r < r'
      · have hR : R = -1 := by have := Hst.out; rw [if_pos hd] at this; exact this
        go_wp2
        go_quiet (fail)
        go_wp2
        go_ret
        exact ⟨by rw [hR]; rfl, Below.drewN' hb _⟩
      · by_cases hd2 : r' < r
        · have hR : R = 1 := by have := Hst.out; rw [if_neg hd, if_pos hd2] at this; exact this
          go_wp2
          go_quiet (fail)
          go_wp2
          go_quiet (fail)
          go_wp2
          go_ret
          exact ⟨by rw [hR]; rfl, Below.drewN' (Below.drewN' hb _) _⟩
        · have Hs2 : Hid (cmpL (l.drop (k + 1)) (m.drop (k + 1)) = R) := by have := Hst.out; rw [if_neg hd, if_neg hd2] at this; exact this.symm
          go_wp2
          go_quiet (fail)
          go_wp2
          go_quiet (fail)
          go_wp2
          go_roundw
          case rel => exact ⟨k + 1, by omega, by omega, by go_num, Hs2, Below.drewN' hb _⟩
          case measure => simp [intOf]; omega
    · have he := (cmpL_end l m k (by rw [Hn.out]; exact hk) (by rw [Hn'.out]; exact hk') (by rw [Hn.out, Hn'.out]; exact hlt)).symm.trans Hq.out
      rw [Hn.out, Hn'.out] at he
      have He := Lib.hid he
      clear he Hq
      by_cases h1 : k < n
      · have h2 : k = n' := by omega
        have hR : R = 1 := by have := He.out; rw [if_neg (by omega), if_pos (by omega)] at this; exact this.symm
        go_wp2
        go_ret
        exact ⟨by rw [hR]; rfl, hb⟩
      · have h2 : k = n := by omega
        by_cases h3 : n < n'
        · have hR : R = -1 := by have := He.out; rw [if_pos (by omega)] at this; exact this.symm
          go_wp2
          go_ret
          exact ⟨by rw [hR]; rfl, hb⟩
        · have hR : R = 0 := by have := He.out; rw [if_neg (by omega), if_neg (by omega)] at this; exact this.symm
          go_wp2
          go_ret
          exact ⟨by rw [hR]; rfl, hb⟩

/-- Two facts compared: by their relations' places, then by their values. -/
def cmpF (x y : Fct) : Int := if x.rel < y.rel then -1 else if y.rel < x.rel then 1 else cmpL x.vals y.vals
theorem specCompareFacts_c {a1 a1' : Option Addr} {cap1 cap1' : Nat} {x y : Fct} {w : World} (h : At cFct w x [.int .i64 x.rel, .slice a1 x.vals.length cap1]) (h' : At cFct w y [.int .i64 y.rel, .slice a1' y.vals.length cap1']) :
    Calls Try.prog 38 #[.agg #[.int .i64 x.rel, .slice a1 x.vals.length cap1], .agg #[.int .i64 y.rel, .slice a1' y.vals.length cap1']] w fun e w' => e = .returned (.int .i64 (cmpF x y)) ∧ Below w.heap.size w w' := by
  have h1 := (cFct_inv h).1
  have h2 := (cFct_inv h').1
  have H1 : Hid (∀ ww, Below w.heap.size w ww → Calls Try.prog 47 #[.slice a1 x.vals.length cap1, .slice a1' y.vals.length cap1'] ww fun e w' => e = .returned (.int .i64 (cmpL x.vals y.vals)) ∧ Below ww.heap.size ww w') :=
    fun ww hb => specl3Ints_c (At.below (c := cSlice cInt) h1 hb (Nat.le_refl _)) (At.below (c := cSlice cInt) h2 hb (Nat.le_refl _))
  clear h h1 h' h2
  unfold cmpF
  obtain ⟨r, l⟩ := x
  obtain ⟨r', l'⟩ := y
  simp only at *
  generalize cmpL l l' = z at *
  by_cases hr : r < r'
  · rw [if_pos hr]
    go_enter Try.func38, Try.ntmps38
    go_wp2
    go_ret
    exact ⟨rfl, by go_grown⟩
  · by_cases hr2 : r' < r
    · rw [if_neg hr, if_pos hr2]
      go_enter Try.func38, Try.ntmps38
      go_wp2
      go_ret
      exact ⟨rfl, by go_grown⟩
    · rw [if_neg hr, if_neg hr2]
      go_enter Try.func38, Try.ntmps38
      go_wp2_with fail
      refine (H1.out _ ?hb).mono ?_
      case hb => go_grown
      rintro e w1 ⟨rfl, hb1⟩
      have hbb : Below w.heap.size w w1 := Below.trans (by go_grown) (hb1.mono (by simp; try omega))
      go_wp2
      go_ret
      exact ⟨rfl, hbb⟩

/-- Every number of a list lies between 0 and 9. -/
def allIn (l : List Int) : Bool := l.all fun x => inB x 0 9
theorem allIn_step (l : List Int) (k : Nat) (hk : k < l.length) : allIn (l.drop k) = (inB l[k] 0 9 && allIn (l.drop (k + 1))) := by
  rw [List.drop_eq_getElem_cons hk]; rfl
/-- The arity of the relation at a place. -/
def arityAt (l : List Rel) (r : Int) : Int := match l[r.toNat]? with | some q => q.arity | none => 0
/-- A valid fact. -/
def validFact (l : List Rel) (x : Fct) : Bool := validRels l && (inB x.rel 0 ((l.length : Int) - 1) && (decide ((x.vals.length : Int) = arityAt l x.rel) && allIn x.vals))
set_option maxHeartbeats 1600000 in
theorem specIsValidFact_c {a0 a1 : Option Addr} {cap0 cap1 : Nat} {l : List Rel} {x : Fct} {w : World} (h : At (cSlice cRel) w l [.slice a0 l.length cap0]) (h' : At cFct w x [.int .i64 x.rel, .slice a1 x.vals.length cap1]) :
    Calls Try.prog 37 #[.slice a0 l.length cap0, .agg #[.int .i64 x.rel, .slice a1 x.vals.length cap1]] w fun e w' => e = .returned (.bool (validFact l x)) ∧ Below w.heap.size w w' := by
  have hm := (slice_len h).2
  have h1 := (cFct_inv h').1
  have hm1 := (slice_len h1).2
  unfold maxLen at hm hm1
  have Hr : Hid (∀ w' : World, Below w.heap.size w w' → ∀ j (hj : j < l.length), _) := fun w' hb j hj => at_Relation (Cod.ok_below h hb) j hj
  have Hi : Hid (∀ w' : World, Below w.heap.size w w' → ∀ j (hj : j < x.vals.length), _) := fun w' hb j hj => ints_at (Cod.ok_below h1 hb) j hj
  have Hc : Hid (∀ ww, Below w.heap.size w ww → Calls Try.prog 39 #[.slice a0 l.length cap0] ww fun e w' => e = .returned (.bool (validRels l)) ∧ Below ww.heap.size ww w') :=
    fun ww hb => specAreValidRelations_c (At.below h hb (Nat.le_refl _))
  clear h h' h1
  unfold validFact
  obtain ⟨n, hn⟩ : ∃ n : Nat, l.length = n := ⟨_, rfl⟩
  have Hn := Lib.hid hn
  rw [hn] at hm Hc ⊢
  clear hn
  obtain ⟨r, v⟩ := x
  simp only at *
  obtain ⟨nv, hnv⟩ : ∃ n : Nat, v.length = n := ⟨_, rfl⟩
  have Hnv := Lib.hid hnv
  rw [hnv] at hm1 ⊢
  clear hnv
  have hwn : wrap64 ((n : Int) - 1) = (n : Int) - 1 := IntWalk.wrap64_in _ ⟨by omega, by omega⟩
  generalize validRels l = V at *
  cases V with
  | false =>
    rw [Bool.false_and]
    go_enter Try.func37, Try.ntmps37
    go_wp2_with fail
    obtain ⟨wx, hwx⟩ : ∃ wx, wx = w.alloc (Obj.cells #[.int .i64 r, .slice a1 nv cap1] 43) := ⟨_, rfl⟩
    rw [← hwx]
    have hb0 : Below w.heap.size w wx := by rw [hwx]; go_grown
    have P0 := grow_cell (w := wx) (p := ⟨w.heap.size, 0, none⟩) (v := .int .i64 r) (by rw [hwx]; go_simp)
    have P1 := grow_cell (w := wx) (p := ⟨w.heap.size, 1, none⟩) (v := .slice a1 nv cap1) (by rw [hwx]; go_simp)
    clear hwx
    refine wp_region_grow (by kernel_rfl) (by kernel_rfl) ?_
    repeat (go_big_quiet_step ((go_at_call 39; exact Calls.grow fun ww h => Hc.out ww (hb0.trans (h.mono hb0.size)))))
    refine wpQuiet_nil ?_
    rintro _ ⟨nq, rfl⟩
    have hbb : Below w.heap.size w nq.W := hb0.trans (nq.below.mono hb0.size)
    go_wp2
    go_ret
    exact ⟨rfl, hbb⟩
  | true =>
    rw [Bool.true_and]
    have Hl : Hid (∀ ww, Calls Try.prog 26 #[.int .i64 r, .int .i64 0, .int .i64 ((n : Int) - 1)] ww fun e w' => e = .returned (.bool (inB r 0 ((n : Int) - 1))) ∧ Below ww.heap.size ww w') :=
      fun ww => (l1In_any _ _ _ _).mono fun e w' h => ⟨h.1, h.2 ▸ Below.refl _ _⟩
    have hI : inB r 0 ((n : Int) - 1) = true → 0 ≤ r ∧ r ≤ (n : Int) - 1 := by unfold inB; simp
    generalize inB r 0 ((n : Int) - 1) = I at *
    cases I with
    | false =>
      rw [Bool.false_and]
      clear hI
      go_enter Try.func37, Try.ntmps37
      go_wp2_with fail
      obtain ⟨wx, hwx⟩ : ∃ wx, wx = w.alloc (Obj.cells #[.int .i64 r, .slice a1 nv cap1] 43) := ⟨_, rfl⟩
      rw [← hwx]
      have hb0 : Below w.heap.size w wx := by rw [hwx]; go_grown
      have P0 := grow_cell (w := wx) (p := ⟨w.heap.size, 0, none⟩) (v := .int .i64 r) (by rw [hwx]; go_simp)
      have P1 := grow_cell (w := wx) (p := ⟨w.heap.size, 1, none⟩) (v := .slice a1 nv cap1) (by rw [hwx]; go_simp)
      clear hwx
      refine wp_region_grow (by kernel_rfl) (by kernel_rfl) ?_
      repeat (go_big_quiet_step (first | (go_at_call 39; exact Calls.grow fun ww h => Hc.out ww (hb0.trans (h.mono hb0.size))) | (go_at_call 26; exact Calls.grow fun ww h => Hl.out ww)))
      refine wpQuiet_nil ?_
      rintro _ ⟨nq, rfl⟩
      have hbb : Below w.heap.size w nq.W := hb0.trans (nq.below.mono hb0.size)
      go_wp2
      go_ret
      exact ⟨rfl, hbb⟩
    | true =>
      rw [Bool.true_and]
      obtain ⟨hr0, hr1⟩ := hI rfl
      clear hI
      obtain ⟨k, rfl⟩ := Int.eq_ofNat_of_zero_le hr0
      have hk : k < n := by omega
      have hkl : k < l.length := by rw [Hn.out]; exact hk
      have har : arityAt l (k : Int) = l[k].arity := by unfold arityAt; simp [hkl]
      rw [har]
      clear har
      by_cases hq : (nv : Int) = l[k].arity
      · rw [decide_eq_true hq, Bool.true_and]
        generalize hR : allIn v = R
        have HR : Hid (allIn (v.drop 0) = R) := hR
        clear hR
        go_enter Try.func37, Try.ntmps37
        go_wp2_with fail
        obtain ⟨wx, hwx⟩ : ∃ wx, wx = w.alloc (Obj.cells #[.int .i64 (k : Int), .slice a1 nv cap1] 43) := ⟨_, rfl⟩
        rw [← hwx]
        have hb0 : Below w.heap.size w wx := by rw [hwx]; go_grown
        have P0 := grow_cell (w := wx) (p := ⟨w.heap.size, 0, none⟩) (v := .int .i64 (k : Int)) (by rw [hwx]; go_simp)
        have P1 := grow_cell (w := wx) (p := ⟨w.heap.size, 1, none⟩) (v := .slice a1 nv cap1) (by rw [hwx]; go_simp)
        clear hwx
        obtain ⟨b, off, rfl, hbB, c0, c1, c2, hx⟩ := Hr.out _ hb0 k hkl
        have C1 := grow_cell c1
        clear c0 c1 c2 hx
        generalize l[k] = q at *
        have hne : ((nv : Int) != q.arity) = false := by simp [hq]
        clear hq
        refine wp_region_grow (by kernel_rfl) (by kernel_rfl) ?_
        repeat (go_big_quiet_step (first | (go_at_call 39; exact Calls.grow fun ww h => Hc.out ww (hb0.trans (h.mono hb0.size))) | (go_at_call 26; exact Calls.grow fun ww h => Hl.out ww)))
        refine wpQuiet_nil ?_
        rintro _ ⟨nq, rfl⟩
        have hbb : Below w.heap.size w nq.W := hb0.trans (nq.below.mono hb0.size)
        have p1 := P1 nq
        have hlt := World.block_lt_of_cell? nq.W _ p1
        go_wp2
        go_loopw [5] (fun iv wr => ∃ k : Nat, k ≤ nv ∧ iv = .int .i64 k ∧ Hid (allIn (v.drop k) = R) ∧ Below nq.W.heap.size nq.W wr) (fun iv _ => nv - (intOf iv).toNat)
        case atStart => exact ⟨0, by omega, by go_num, HR, Below.refl _ _⟩
        case round =>
          clear HR
          obtain ⟨j, hj, rfl, Hq, hb⟩ := hrel
          have r1 := (hb.cell (p := ⟨w.heap.size, 1, none⟩) hlt).trans p1
          have hbw : Below w.heap.size w wr := hbb.trans (hb.mono hbb.size)
          by_cases hjn : j < nv
          · have hjl : j < v.length := by rw [Hnv.out]; exact hjn
            obtain ⟨b', off', rfl, hbB', d0⟩ := Hi.out _ hbw j hjl
            have Hst := Lib.hid (Hq.out.symm.trans (allIn_step v j hjl))
            clear Hq
            generalize v[j] = z at *
            have Hz : Hid (∀ ww, Calls Try.prog 26 #[.int .i64 z, .int .i64 0, .int .i64 9] ww fun e w' => e = .returned (.bool (inB z 0 9)) ∧ ww = w') := fun ww => l1In_any _ _ _ _
            generalize inB z 0 9 = J at *
            cases J with
            | true =>
              rw [Bool.true_and] at Hst
              go_wp2_with (go_at_call 26; refine (Hz.out _).mono ?_; rintro e w' ⟨rfl, rfl⟩)
              go_roundw
              case rel => exact ⟨j + 1, by omega, by go_num, Hst.out.symm, hb⟩
              case measure => simp [intOf]; omega
            | false =>
              have hR : R = false := by have := Hst.out; rw [Bool.false_and] at this; exact this
              go_wp2_with (go_at_call 26; refine (Hz.out _).mono ?_; rintro e w' ⟨rfl, rfl⟩)
              go_ret
              exact ⟨by rw [hR]; rfl, hbw⟩
          · obtain rfl : j = nv := by omega
            have hR : R = true := by
              have := Hq.out
              rw [List.drop_eq_nil_of_le (by rw [Hnv.out]; exact Nat.le_refl _)] at this
              exact this.symm
            go_wp2
            go_ret
            exact ⟨by rw [hR]; rfl, hbw⟩
      · rw [decide_eq_false hq, Bool.false_and]
        go_enter Try.func37, Try.ntmps37
        go_wp2_with fail
        obtain ⟨wx, hwx⟩ : ∃ wx, wx = w.alloc (Obj.cells #[.int .i64 (k : Int), .slice a1 nv cap1] 43) := ⟨_, rfl⟩
        rw [← hwx]
        have hb0 : Below w.heap.size w wx := by rw [hwx]; go_grown
        have P0 := grow_cell (w := wx) (p := ⟨w.heap.size, 0, none⟩) (v := .int .i64 (k : Int)) (by rw [hwx]; go_simp)
        have P1 := grow_cell (w := wx) (p := ⟨w.heap.size, 1, none⟩) (v := .slice a1 nv cap1) (by rw [hwx]; go_simp)
        clear hwx
        obtain ⟨b, off, rfl, hbB, c0, c1, c2, hx⟩ := Hr.out _ hb0 k hkl
        have C1 := grow_cell c1
        clear c0 c1 c2 hx
        generalize l[k] = q at *
        have hne : ((nv : Int) != q.arity) = true := by simp [hq]
        clear hq
        refine wp_region_grow (by kernel_rfl) (by kernel_rfl) ?_
        repeat (go_big_quiet_step (first | (go_at_call 39; exact Calls.grow fun ww h => Hc.out ww (hb0.trans (h.mono hb0.size))) | (go_at_call 26; exact Calls.grow fun ww h => Hl.out ww)))
        refine wpQuiet_nil ?_
        rintro _ ⟨nq, rfl⟩
        have hbb : Below w.heap.size w nq.W := hb0.trans (nq.below.mono hb0.size)
        go_wp2
        go_ret
        exact ⟨rfl, hbb⟩
end Go.Proofs.Ytbdichnloeijfaa

