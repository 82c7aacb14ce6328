/- Chapter 4: FactIndex and ContainsFact, the model's and the program's. -/
import Derived.Test.YtcigoeipaichaaaDbImpl
namespace Go.Proofs.Ytcigoeipaichaaa
open Go.RowKit
set_option linter.unusedVariables false
set_option maxRecDepth 100000

/-- The place of the first fact that compares as equal, counted from i, or -1. -/
def fidxFrom : List Fct → Fct → Int → Int
  | [], _, _ => -1
  | r :: l, s, i => if cmpF r s = 0 then i else fidxFrom l s (i + 1)
def factIdx (d : Dbs) (x : Fct) : Int := fidxFrom d.facts x 0
theorem fidxFrom_step (l : List Fct) (s : Fct) (k : Nat) (hk : k < l.length) (i : Int) : fidxFrom (l.drop k) s i = if cmpF l[k] s = 0 then i else fidxFrom (l.drop (k + 1)) s (i + 1) := by
  rw [List.drop_eq_getElem_cons hk]; rfl
theorem fidxFrom_ge : ∀ (l : List Fct) (s : Fct) (i : Int), 0 ≤ i → fidxFrom l s i = -1 ∨ 0 ≤ fidxFrom l s i
  | [], _, _, _ => .inl rfl
  | r :: l, s, i, h => by
    unfold fidxFrom
    by_cases hz : cmpF r s = 0
    · rw [if_pos hz]; exact .inr h
    · rw [if_neg hz]; exact fidxFrom_ge l s (i + 1) (by omega)

set_option maxHeartbeats 1600000 in
theorem specFactIndex_c {a0 a1 : Option Addr} {cap0 cap1 : Nat} {x : Dbs} {ay : Option Addr} {cy : Nat} {y : Fct} {w : World} (h : At cDbs w x [.slice a0 x.rels.length cap0, .slice a1 x.facts.length cap1]) (h' : At cFct w y [.int .i64 y.rel, .slice ay y.vals.length cy]) :
    Calls Try.prog 42 #[.agg #[.slice a0 x.rels.length cap0, .slice a1 x.facts.length cap1], .agg #[.int .i64 y.rel, .slice ay y.vals.length cy]] w fun e w' => e = .returned (.int .i64 (factIdx x y)) ∧ Below w.heap.size w w' := by
  have h1 := (cDbs_inv h).2
  have hm := (slice_len h1).2
  unfold maxLen at hm
  have Hr : Hid (∀ w' : World, Below w.heap.size w w' → ∀ j (hj : j < x.facts.length), _) := fun w' hb j hj => at_Fact (Cod.ok_below h1 hb) j hj
  have Hy : Hid (∀ ww, Below w.heap.size w ww → ∀ (f : Fct) (a : Option Addr) (c : Nat), At cFct ww f [.int .i64 f.rel, .slice a f.vals.length c] → Calls Try.prog 31 #[.agg #[.int .i64 f.rel, .slice a f.vals.length c], .agg #[.int .i64 y.rel, .slice ay y.vals.length cy]] ww fun e w' => e = .returned (.int .i64 (cmpF f y)) ∧ Below ww.heap.size ww w') :=
    fun ww hb f a c hA => specCompareFacts_c hA (At.below h' hb (Nat.le_refl _))
  clear h h1 h'
  obtain ⟨rs, l⟩ := x
  unfold factIdx
  simp only at *
  obtain ⟨n, hn⟩ : ∃ n : Nat, l.length = n := ⟨_, rfl⟩
  have Hn := Lib.hid hn
  rw [hn] at hm ⊢
  clear hn
  generalize rs.length = nr at *
  generalize hR : fidxFrom l y 0 = R
  have HR : Hid (fidxFrom (l.drop 0) y ((0 : Nat) : Int) = R) := hR
  clear hR
  obtain ⟨Y, hY⟩ : ∃ Y : Nat, y.vals.length = Y := ⟨_, rfl⟩
  rw [hY] at Hy ⊢
  clear hY
  go_enter Try.func42, Try.ntmps42
  go_wp2_with fail
  obtain ⟨wx, hwx⟩ : ∃ wx, wx = (w.alloc (Obj.cells #[.slice a0 nr cap0, .slice a1 n cap1] 58)).alloc (Obj.cells #[.int .i64 y.rel, .slice ay Y cy] 43) := ⟨_, rfl⟩
  rw [← hwx]
  have hb0 : Below w.heap.size w wx := by rw [hwx]; go_grown
  have p1 : wx.cell? ⟨w.heap.size, 1, none⟩ = some (.slice a1 n cap1) := by rw [hwx]; go_simp
  have r0 : wx.cell? ⟨w.heap.size + 1, 0, none⟩ = some (.int .i64 y.rel) := by rw [hwx]; go_simp
  have r1 : wx.cell? ⟨w.heap.size + 1, 1, none⟩ = some (.slice ay Y cy) := by rw [hwx]; go_simp
  clear hwx
  go_loopw [5] (fun iv wr => ∃ k : Nat, k ≤ n ∧ iv = .int .i64 k ∧ Hid (fidxFrom (l.drop k) y k = R) ∧ Below wx.heap.size wx wr) (fun iv _ => n - (intOf iv).toNat)
  case atStart => exact ⟨0, by omega, by go_num, HR, Below.refl _ _⟩
  case round =>
    clear HR
    obtain ⟨k, hk, rfl, Hq, hbx⟩ := hrel
    have q1 := (hbx.cell (World.block_lt_of_cell? wx _ p1)).trans p1
    have s0 := (hbx.cell (World.block_lt_of_cell? wx _ r0)).trans r0
    have s1 := (hbx.cell (World.block_lt_of_cell? wx _ r1)).trans r1
    have hb : Below w.heap.size w wr := hb0.trans (hbx.mono hb0.size)
    clear p1 r0 r1
    by_cases hlt : k < n
    · have hkl : k < l.length := by rw [Hn.out]; exact hlt
      have Hst := Lib.hid (Hq.out.symm.trans (fidxFrom_step l y k hkl k))
      obtain ⟨b, off, av, cv, rfl, hbB, c0, c1, hx⟩ := Hr.out _ hb k hkl
      have hA : At cFct wr l[k] [.int .i64 l[k].rel, .slice av l[k].vals.length cv] := cFct.keep hx (fun _ _ => rfl) hb.size
      have Hc : Hid (∀ ww, Below wr.heap.size wr ww → Calls Try.prog 31 #[.agg #[.int .i64 l[k].rel, .slice av l[k].vals.length cv], .agg #[.int .i64 y.rel, .slice ay Y cy]] ww fun e w' => e = .returned (.int .i64 (cmpF l[k] y)) ∧ Below ww.heap.size ww w') :=
        fun ww hw2 => Hy.out ww (hb.trans (hw2.mono hb.size)) l[k] av cv (At.below hA hw2 (Nat.le_refl _))
      have C0 := grow_cell c0
      have C1 := grow_cell c1
      have Q1 := grow_cell q1
      have S0 := grow_cell s0
      have S1 := grow_cell s1
      clear hx Hq hA c0 c1 Hy
      generalize cmpF l[k] y = z at *
      generalize l[k] = r at *
      by_cases hz : z = 0
      · have hR : R = k := by have := Hst.out; rw [if_pos hz] at this; exact this
        subst hz
        go_wp2_with fail
        refine wp_region_grow (by kernel_rfl) (by kernel_rfl) ?_
        repeat (go_big_quiet_step ((go_at_call 31; exact Calls.grow fun ww h => Hc.out ww h)))
        refine wpQuiet_nil ?_
        rintro _ ⟨nq, rfl⟩
        go_wp2
        go_ret
        exact ⟨by rw [hR]; rfl, hb.trans (nq.below.mono hb.size)⟩
      · have Hs2 : Hid (fidxFrom (l.drop (k + 1)) y ((k + 1 : Nat) : Int) = R) := by have := Hst.out; rw [if_neg hz] at this; exact this.symm
        have hzd : (z == 0) = false := by simp [hz]
        go_wp2_with fail
        refine wp_region_grow (by kernel_rfl) (by kernel_rfl) ?_
        repeat (go_big_quiet_step ((go_at_call 31; exact Calls.grow fun ww h => Hc.out ww h)))
        refine wpQuiet_nil ?_
        rintro _ ⟨nq, rfl⟩
        go_wp2
        go_roundw
        case rel => exact ⟨k + 1, by omega, by go_num, Hs2, hbx.trans (nq.below.mono hbx.size)⟩
        case measure => simp [intOf]; omega
    · obtain rfl : k = n := by omega
      have hR : R = -1 := by
        have := Hq.out
        rw [List.drop_eq_nil_of_le (by rw [Hn.out]; exact Nat.le_refl _)] at this
        exact this.symm
      go_wp2
      go_ret
      exact ⟨by rw [hR]; rfl, hb⟩

theorem equalFacts_c {a1 a1' : Option Addr} {cap1 cap1' : Nat} {x y : Fct} {w : World} (h : At cFct w x [.int .i64 x.rel, .slice a1 x.vals.length cap1]) (h' : At cFct w y [.int .i64 y.rel, .slice a1' y.vals.length cap1']) :
    Calls Try.prog 69 #[.agg #[.int .i64 x.rel, .slice a1 x.vals.length cap1], .agg #[.int .i64 y.rel, .slice a1' y.vals.length cap1']] w fun e w' => e = .returned (.bool (cmpF x y == 0)) ∧ Below w.heap.size w w' := by
  have H1 : Hid (∀ ww, Below w.heap.size w ww → Calls Try.prog 32 #[.agg #[.int .i64 x.rel, .slice a1 x.vals.length cap1], .agg #[.int .i64 y.rel, .slice a1' y.vals.length cap1']] ww fun e w' => e = .returned (.int .i64 (cmpF x y)) ∧ Below ww.heap.size ww w') :=
    fun ww hb => implCompareFacts_c (At.below h hb (Nat.le_refl _)) (At.below h' hb (Nat.le_refl _))
  clear h h'
  generalize cmpF x y = z at *
  go_enter Try.func69, Try.ntmps69
  go_wp2_with fail
  refine (H1.out _ ?hb).mono ?_
  case hb => go_grown
  rintro e w1 ⟨rfl, hb1⟩
  have hbb : Below w.heap.size w w1 := Below.trans (by go_grown) (hb1.mono (by simp; try omega))
  go_wp2
  go_ret
  exact ⟨rfl, hbb⟩

set_option maxHeartbeats 1600000 in
theorem implFactIndex_c {a0 a1 : Option Addr} {cap0 cap1 : Nat} {x : Dbs} {ay : Option Addr} {cy : Nat} {y : Fct} {w : World} (h : At cDbs w x [.slice a0 x.rels.length cap0, .slice a1 x.facts.length cap1]) (h' : At cFct w y [.int .i64 y.rel, .slice ay y.vals.length cy]) :
    Calls Try.prog 43 #[.agg #[.slice a0 x.rels.length cap0, .slice a1 x.facts.length cap1], .agg #[.int .i64 y.rel, .slice ay y.vals.length cy]] w fun e w' => e = .returned (.int .i64 (factIdx x y)) ∧ Below w.heap.size w w' := by
  have h1 := (cDbs_inv h).2
  have hm := (slice_len h1).2
  unfold maxLen at hm
  have Hr : Hid (∀ w' : World, Below w.heap.size w w' → ∀ j (hj : j < x.facts.length), _) := fun w' hb j hj => at_Fact (Cod.ok_below h1 hb) j hj
  have Hy : Hid (∀ ww, Below w.heap.size w ww → ∀ (f : Fct) (a : Option Addr) (c : Nat), At cFct ww f [.int .i64 f.rel, .slice a f.vals.length c] → Calls Try.prog 69 #[.agg #[.int .i64 f.rel, .slice a f.vals.length c], .agg #[.int .i64 y.rel, .slice ay y.vals.length cy]] ww fun e w' => e = .returned (.bool (cmpF f y == 0)) ∧ Below ww.heap.size ww w') :=
    fun ww hb f a c hA => equalFacts_c hA (At.below h' hb (Nat.le_refl _))
  clear h h1 h'
  obtain ⟨rs, l⟩ := x
  unfold factIdx
  simp only at *
  obtain ⟨n, hn⟩ : ∃ n : Nat, l.length = n := ⟨_, rfl⟩
  have Hn := Lib.hid hn
  rw [hn] at hm ⊢
  clear hn
  generalize rs.length = nr at *
  generalize hR : fidxFrom l y 0 = R
  have HR : Hid (fidxFrom (l.drop 0) y ((0 : Nat) : Int) = R) := hR
  clear hR
  obtain ⟨Y, hY⟩ : ∃ Y : Nat, y.vals.length = Y := ⟨_, rfl⟩
  rw [hY] at Hy ⊢
  clear hY
  obtain ⟨wx, hwx⟩ : ∃ wx, wx = (w.alloc (Obj.cells #[.slice a0 nr cap0, .slice a1 n cap1] 58)).alloc (Obj.cells #[.int .i64 y.rel, .slice ay Y cy] 43) := ⟨_, rfl⟩
  have hb0 : Below w.heap.size w wx := by rw [hwx]; go_grown
  have p1 : wx.cell? ⟨w.heap.size, 1, none⟩ = some (.slice a1 n cap1) := by rw [hwx]; go_simp
  have r0 : wx.cell? ⟨w.heap.size + 1, 0, none⟩ = some (.int .i64 y.rel) := by rw [hwx]; go_simp
  have r1 : wx.cell? ⟨w.heap.size + 1, 1, none⟩ = some (.slice ay Y cy) := by rw [hwx]; go_simp
  have Hwx := Lib.hid hwx
  clear hwx
  go_enter Try.func43, Try.ntmps43
  go_wp2_with fail
  rw [← Hwx.out]
  go_loopw [10] (fun iv wr => ∃ k : Nat, k ≤ n ∧ iv = .int .i64 k ∧ Hid (fidxFrom (l.drop k) y k = R) ∧ Below wx.heap.size wx wr) (fun iv _ => n - (intOf iv).toNat)
  case atStart => exact ⟨0, by omega, by go_num, HR, Below.refl _ _⟩
  case round =>
    clear HR Hwx
    obtain ⟨k, hk, rfl, Hq, hbx⟩ := hrel
    have s0 := (hbx.cell (World.block_lt_of_cell? wx _ r0)).trans r0
    have s1 := (hbx.cell (World.block_lt_of_cell? wx _ r1)).trans r1
    have hb : Below w.heap.size w wr := hb0.trans (hbx.mono hb0.size)
    clear p1 r0 r1
    by_cases hlt : k < n
    · have hkl : k < l.length := by rw [Hn.out]; exact hlt
      have Hst := Lib.hid (Hq.out.symm.trans (fidxFrom_step l y k hkl k))
      obtain ⟨b, off, av, cv, rfl, hbB, c0, c1, hx⟩ := Hr.out _ hb k hkl
      have hA : At cFct wr l[k] [.int .i64 l[k].rel, .slice av l[k].vals.length cv] := cFct.keep hx (fun _ _ => rfl) hb.size
      have Hc : Hid (∀ ww, Below wr.heap.size wr ww → Calls Try.prog 69 #[.agg #[.int .i64 l[k].rel, .slice av l[k].vals.length cv], .agg #[.int .i64 y.rel, .slice ay Y cy]] ww fun e w' => e = .returned (.bool (cmpF l[k] y == 0)) ∧ Below ww.heap.size ww w') :=
        fun ww hw2 => Hy.out ww (hb.trans (hw2.mono hb.size)) l[k] av cv (At.below hA hw2 (Nat.le_refl _))
      clear hx Hq hA Hy
      generalize cmpF l[k] y = z at *
      generalize l[k] = r at *
      have l0 := World.block_lt_of_cell? wr _ s0
      by_cases hz : z = 0
      · have hR : R = k := by have := Hst.out; rw [if_pos hz] at this; exact this
        have hzd : (z == 0) = true := by simp [hz]
        rw [hzd] at Hc
        go_wp2_with fail
        refine (Hc.out _ ?hb).mono ?_
        case hb => go_grown
        rintro e w2 ⟨rfl, hb2⟩
        have hbr : Below wr.heap.size wr w2 := Below.trans (by go_grown) (hb2.mono (by simp; try omega))
        go_wp2
        go_ret
        exact ⟨by rw [hR]; rfl, hb.trans (hbr.mono hb.size)⟩
      · have Hs2 : Hid (fidxFrom (l.drop (k + 1)) y ((k + 1 : Nat) : Int) = R) := by have := Hst.out; rw [if_neg hz] at this; exact this.symm
        have hzd : (z == 0) = false := by simp [hz]
        rw [hzd] at Hc
        go_wp2_with fail
        refine (Hc.out _ ?hb).mono ?_
        case hb => go_grown
        rintro e w2 ⟨rfl, hb2⟩
        have hbr : Below wr.heap.size wr w2 := Below.trans (by go_grown) (hb2.mono (by simp; try omega))
        go_wp2
        go_roundw
        case rel => exact ⟨k + 1, by omega, by go_num, Hs2, hbx.trans (hbr.mono hbx.size)⟩
        case measure => simp [intOf]; omega
    · obtain rfl : k = n := by omega
      have hR : R = -1 := by
        have := Hq.out
        rw [List.drop_eq_nil_of_le (by rw [Hn.out]; exact Nat.le_refl _)] at this
        exact this.symm
      go_wp2
      go_ret
      exact ⟨by rw [hR]; rfl, hb⟩

/-- A valid database that has the fact. -/
def contains (x : Dbs) (y : Fct) : Bool := validDb x && decide (factIdx x y ≥ 0)

set_option maxHeartbeats 1600000 in
theorem specContainsFact_c {a0 a1 : Option Addr} {cap0 cap1 : Nat} {x : Dbs} {ay : Option Addr} {cy : Nat} {y : Fct} {w : World} (h : At cDbs w x [.slice a0 x.rels.length cap0, .slice a1 x.facts.length cap1]) (h' : At cFct w y [.int .i64 y.rel, .slice ay y.vals.length cy]) :
    Calls Try.prog 40 #[.agg #[.slice a0 x.rels.length cap0, .slice a1 x.facts.length cap1], .agg #[.int .i64 y.rel, .slice ay y.vals.length cy]] w fun e w' => e = .returned (.bool (contains x y)) ∧ Below w.heap.size w w' := by
  have H1 : Hid (∀ ww, Below w.heap.size w ww → Calls Try.prog 36 #[.agg #[.slice a0 x.rels.length cap0, .slice a1 x.facts.length cap1]] ww fun e w' => e = .returned (.bool (validDb x)) ∧ Below ww.heap.size ww w') :=
    fun ww hb => specIsValidDatabase_c (At.below h hb (Nat.le_refl _))
  have H2 : Hid (∀ ww, Below w.heap.size w ww → Calls Try.prog 42 #[.agg #[.slice a0 x.rels.length cap0, .slice a1 x.facts.length cap1], .agg #[.int .i64 y.rel, .slice ay y.vals.length cy]] ww fun e w' => e = .returned (.int .i64 (factIdx x y)) ∧ Below ww.heap.size ww w') :=
    fun ww hb => specFactIndex_c (At.below h hb (Nat.le_refl _)) (At.below h' hb (Nat.le_refl _))
  clear h h'
  unfold contains
  generalize factIdx x y = z at *
  generalize validDb x = V at *
  generalize x.rels.length = nr at *
  generalize x.facts.length = n at *
  generalize y.vals.length = Y at *
  generalize y.rel = yr at *
  obtain ⟨wx, hwx⟩ : ∃ wx, wx = (w.alloc (Obj.cells #[.slice a0 nr cap0, .slice a1 n cap1] 58)).alloc (Obj.cells #[.int .i64 yr, .slice ay Y cy] 43) := ⟨_, rfl⟩
  have hb0 : Below w.heap.size w wx := by rw [hwx]; go_grown
  have p0 : wx.cell? ⟨w.heap.size, 0, none⟩ = some (.slice a0 nr cap0) := by rw [hwx]; go_simp
  have p1 : wx.cell? ⟨w.heap.size, 1, none⟩ = some (.slice a1 n cap1) := by rw [hwx]; go_simp
  have r0 : wx.cell? ⟨w.heap.size + 1, 0, none⟩ = some (.int .i64 yr) := by rw [hwx]; go_simp
  have r1 : wx.cell? ⟨w.heap.size + 1, 1, none⟩ = some (.slice ay Y cy) := by rw [hwx]; go_simp
  have Hwx := Lib.hid hwx
  clear hwx
  cases V with
  | false =>
    rw [Bool.false_and]
    go_enter Try.func40, Try.ntmps40
    go_wp2_with fail
    rw [← Hwx.out]
    refine (H1.out _ hb0).mono ?_
    rintro e w1 ⟨rfl, hb1⟩
    go_wp2
    go_ret
    exact ⟨rfl, hb0.trans (hb1.mono hb0.size)⟩
  | true =>
    rw [Bool.true_and]
    go_enter Try.func40, Try.ntmps40
    go_wp2_with fail
    rw [← Hwx.out]
    refine (H1.out _ hb0).mono ?_
    rintro e w1 ⟨rfl, hb1⟩
    have hbb : Below w.heap.size w w1 := hb0.trans (hb1.mono hb0.size)
    replace p0 := (hb1.cell (World.block_lt_of_cell? wx _ p0)).trans p0
    replace p1 := (hb1.cell (World.block_lt_of_cell? wx _ p1)).trans p1
    replace r0 := (hb1.cell (World.block_lt_of_cell? wx _ r0)).trans r0
    replace r1 := (hb1.cell (World.block_lt_of_cell? wx _ r1)).trans r1
    clear hb0 hb1 Hwx H1
    go_wp2_with fail
    refine (H2.out _ hbb).mono ?_
    rintro e w2 ⟨rfl, hb2⟩
    go_wp2
    go_ret
    exact ⟨rfl, hbb.trans (hb2.mono hbb.size)⟩

set_option maxHeartbeats 1600000 in
theorem implContainsFact_c {a0 a1 : Option Addr} {cap0 cap1 : Nat} {x : Dbs} {ay : Option Addr} {cy : Nat} {y : Fct} {w : World} (h : At cDbs w x [.slice a0 x.rels.length cap0, .slice a1 x.facts.length cap1]) (h' : At cFct w y [.int .i64 y.rel, .slice ay y.vals.length cy]) :
    Calls Try.prog 41 #[.agg #[.slice a0 x.rels.length cap0, .slice a1 x.facts.length cap1], .agg #[.int .i64 y.rel, .slice ay y.vals.length cy]] w fun e w' => e = .returned (.bool (contains x y)) ∧ Below w.heap.size w w' := by
  have H1 : Hid (∀ ww, Below w.heap.size w ww → Calls Try.prog 38 #[.agg #[.slice a0 x.rels.length cap0, .slice a1 x.facts.length cap1]] ww fun e w' => e = .returned (.bool (validDb x)) ∧ Below ww.heap.size ww w') :=
    fun ww hb => implIsValidDatabase_c (At.below h hb (Nat.le_refl _))
  have H2 : Hid (∀ ww, Below w.heap.size w ww → Calls Try.prog 43 #[.agg #[.slice a0 x.rels.length cap0, .slice a1 x.facts.length cap1], .agg #[.int .i64 y.rel, .slice ay y.vals.length cy]] ww fun e w' => e = .returned (.int .i64 (factIdx x y)) ∧ Below ww.heap.size ww w') :=
    fun ww hb => implFactIndex_c (At.below h hb (Nat.le_refl _)) (At.below h' hb (Nat.le_refl _))
  clear h h'
  unfold contains
  generalize factIdx x y = z at *
  generalize validDb x = V at *
  generalize x.rels.length = nr at *
  generalize x.facts.length = n at *
  generalize y.vals.length = Y at *
  generalize y.rel = yr at *
  obtain ⟨wx, hwx⟩ : ∃ wx, wx = (w.alloc (Obj.cells #[.slice a0 nr cap0, .slice a1 n cap1] 58)).alloc (Obj.cells #[.int .i64 yr, .slice ay Y cy] 43) := ⟨_, rfl⟩
  have hb0 : Below w.heap.size w wx := by rw [hwx]; go_grown
  have p0 : wx.cell? ⟨w.heap.size, 0, none⟩ = some (.slice a0 nr cap0) := by rw [hwx]; go_simp
  have p1 : wx.cell? ⟨w.heap.size, 1, none⟩ = some (.slice a1 n cap1) := by rw [hwx]; go_simp
  have r0 : wx.cell? ⟨w.heap.size + 1, 0, none⟩ = some (.int .i64 yr) := by rw [hwx]; go_simp
  have r1 : wx.cell? ⟨w.heap.size + 1, 1, none⟩ = some (.slice ay Y cy) := by rw [hwx]; go_simp
  have Hwx := Lib.hid hwx
  clear hwx
  cases V with
  | false =>
    rw [Bool.false_and]
    go_enter Try.func41, Try.ntmps41
    go_wp2_with fail
    rw [← Hwx.out]
    refine (H1.out _ hb0).mono ?_
    rintro e w1 ⟨rfl, hb1⟩
    go_wp2
    go_ret
    exact ⟨rfl, hb0.trans (hb1.mono hb0.size)⟩
  | true =>
    rw [Bool.true_and]
    go_enter Try.func41, Try.ntmps41
    go_wp2_with fail
    rw [← Hwx.out]
    refine (H1.out _ hb0).mono ?_
    rintro e w1 ⟨rfl, hb1⟩
    have hbb : Below w.heap.size w w1 := hb0.trans (hb1.mono hb0.size)
    replace p0 := (hb1.cell (World.block_lt_of_cell? wx _ p0)).trans p0
    replace p1 := (hb1.cell (World.block_lt_of_cell? wx _ p1)).trans p1
    replace r0 := (hb1.cell (World.block_lt_of_cell? wx _ r0)).trans r0
    replace r1 := (hb1.cell (World.block_lt_of_cell? wx _ r1)).trans r1
    clear hb0 hb1 Hwx H1
    go_wp2_with fail
    refine (H2.out _ hbb).mono ?_
    rintro e w2 ⟨rfl, hb2⟩
    go_wp2
    go_ret
    exact ⟨rfl, hbb.trans (hb2.mono hbb.size)⟩
end Go.Proofs.Ytcigoeipaichaaa

