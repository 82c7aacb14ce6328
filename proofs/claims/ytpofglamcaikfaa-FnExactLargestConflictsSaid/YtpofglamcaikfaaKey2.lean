/- Chapter 3: KeyOf, the model's and the program's; the model's HaveSameKey. -/
import Derived.Test.YtpofglamcaikfaaKeyOne
import Derived.Deep.RegionHeld3
namespace Go.Proofs.Ytpofglamcaikfaa
open Go.RowKit
set_option linter.unusedVariables false
set_option maxRecDepth 100000

theorem Own.empty {α : Type} {c : Cod α} (B : Nat) (w : World) (a : Option Addr) (cap : Nat) : Own (cSlice c) B w [] [.slice a 0 cap] := ⟨[], ⟨a, cap, rfl, by simp, .inl ⟨rfl, rfl⟩⟩, by simp⟩
theorem keyVals_len (l : List Rel) (x : Fct) : (keyVals l x).length ≤ 3 := by
  unfold keyVals
  split
  · rename_i h
    obtain ⟨k, p, hk, _, _, h1, h2, _⟩ := validFact_key h
    have : (x.vals.take (keyN l x.rel)).length ≤ x.vals.length := by simp; omega
    omega
  · simp
theorem row_empty (w : World) (e : TypeId) (base : Nat) (h : base ≤ w.heap.size) : (w.alloc (.cells #[] e)).ownsRow base e 1 (.slice (some ⟨w.heap.size, 0, none⟩) 0 0) 0 [] :=
  ⟨rfl, .inr ⟨w.heap.size, 0, #[], rfl, h, heap_alloc_new w _, by simp, by simp, by simp, by simp⟩⟩

set_option maxHeartbeats 1600000 in
theorem specKeyOf_c {a0 ax : Option Addr} {cap0 cx : Nat} {l : List Rel} {x : Fct} {w : World} (h : At (cSlice cRel) w l [.slice a0 l.length cap0]) (h1 : At cFct w x [.int .i64 x.rel, .slice ax x.vals.length cx]) :
    Calls Try.prog 48 #[.slice a0 l.length cap0, .agg #[.int .i64 x.rel, .slice ax x.vals.length cx]] w fun e w' => (∃ a cap, e = .returned (.slice a (keyVals l x).length cap) ∧ Own (cSlice cInt) w.heap.size w' (keyVals l x) [.slice a (keyVals l x).length cap]) ∧ Below w.heap.size w w' := by
  have H1 : Hid (∀ ww, Below w.heap.size w ww → Calls Try.prog 35 #[.slice a0 l.length cap0, .agg #[.int .i64 x.rel, .slice ax x.vals.length cx]] ww fun e w' => e = .returned (.bool (validFact l x)) ∧ Below ww.heap.size ww w') :=
    fun ww hb => specIsValidFact_c (At.below h hb (Nat.le_refl _)) (At.below h1 hb (Nat.le_refl _))
  have hX := (cFct_inv h1).1
  have hcx := slice_cap hX
  have Hr : Hid (∀ w' : World, Below w.heap.size w w' → ∀ j (hj : j < l.length), _) := fun w' hb j hj => at_Relation (Cod.ok_below h hb) j hj
  unfold keyVals
  cases hV : validFact l x with
  | false =>
    rw [hV] at H1
    clear h h1 hX hV hcx Hr
    obtain ⟨rx, vx⟩ := x
    simp only at *
    generalize vx.length = n at *
    generalize l.length = nl at *
    go_enter Try.func48, Try.ntmps48
    go_wp2_with fail
    refine (H1.out _ ?hb).mono ?_
    case hb => go_grown
    rintro e w1 ⟨rfl, hb1⟩
    have hbb : Below w.heap.size w w1 := Below.trans (by go_grown) (hb1.mono (by simp; try omega))
    have ho : ∀ W, Own (cSlice cInt) w.heap.size W [] [.slice (some ⟨w1.heap.size, 0, none⟩) 0 0] := fun W => Own.empty _ _ _ _
    go_wp2
    go_ret
    exact ⟨⟨_, _, rfl, ho _⟩, hbb.trans ((by go_grown : Below w1.heap.size w1 _).mono hbb.size)⟩
  | true =>
    rw [hV] at H1
    obtain ⟨k, p, hk, hrx, hkey, hpl, hl3, hkn, ha1⟩ := validFact_key hV
    have Hs : Hid (∀ ww, Below w.heap.size w ww → Srcs ww 1 ax p ((x.vals.take p).map iv)) := by
      intro ww hb
      have h := srcs_ints (At.below (ints_take hX p hpl) hb (Nat.le_refl _))
      rw [show (x.vals.take p).length = p by simp; omega] at h
      exact h
    have Hg : Hid (∀ y, y ∈ x.vals.take p → inR y) := fun y hy => ints_rng hX y (List.mem_of_mem_take hy)
    rw [if_pos rfl, hrx, hkn, show (x.vals.take p).length = p by simp; omega]
    have Hvt : Hid ((x.vals.take p).length = p) := by show _ = _; simp; omega
    obtain ⟨rx, vx⟩ := x
    simp only at *
    subst hrx
    obtain ⟨n, hn⟩ : ∃ n : Nat, vx.length = n := ⟨_, rfl⟩
    obtain ⟨nl, hnl⟩ : ∃ n : Nat, l.length = n := ⟨_, rfl⟩
    have hkl := hk
    rw [hnl] at hkl H1 ⊢
    rw [hn] at hcx hpl hl3 H1 ⊢
    have Hk := Lib.hid hkey
    clear hV h h1 hX hkn ha1 hkey hn hnl
    generalize hvt : vx.take p = vt at *
    clear hvt
    obtain ⟨wx, hwx⟩ : ∃ wx, wx = w.alloc (Obj.cells #[.int .i64 (k : Int), .slice ax n cx] 59) := ⟨_, rfl⟩
    have hb0 : Below w.heap.size w wx := by rw [hwx]; go_grown
    have p0 : wx.cell? ⟨w.heap.size, 0, none⟩ = some (.int .i64 (k : Int)) := by rw [hwx]; go_simp
    have p1 : wx.cell? ⟨w.heap.size, 1, none⟩ = some (.slice ax n cx) := by rw [hwx]; go_simp
    have Hwx := Lib.hid hwx
    clear hwx
    obtain ⟨i0, hi, hz0, hz1, hz2⟩ := info_parts Try.infoI
    have i0' : (0 : Int) ≤ (p : Int) := Int.natCast_nonneg _
    have i1' : (p : Int) ≤ (cx : Int) := by omega
    go_enter Try.func48, Try.ntmps48
    go_wp2_with fail
    rw [← Hwx.out]
    clear Hwx
    refine (H1.out _ hb0).mono ?_
    rintro e w1 ⟨rfl, hb1⟩
    have hbb : Below w.heap.size w w1 := hb0.trans (hb1.mono hb0.size)
    replace p0 := (hb1.cell (World.block_lt_of_cell? wx _ p0)).trans p0
    replace p1 := (hb1.cell (World.block_lt_of_cell? wx _ p1)).trans p1
    obtain ⟨b, off, rfl, hbB, c0, c1, c2, hx⟩ := Hr.out _ hbb k hk
    rw [Hk.out] at c2
    have l0 := World.block_lt_of_cell? w1 _ p0
    have l2 := World.block_lt_of_cell? w1 _ c2
    clear c0 c1 hx Hk Hr H1 hb0 hb1
    go_wp2_with fail
    go_region_held3 (fun w' => w'.cell? ⟨w.heap.size, 0, none⟩ = some (.int .i64 (k : Int)) ∧ w'.cell? ⟨w.heap.size, 1, none⟩ = some (.slice ax n cx) ∧ w'.cell? ⟨b, off + k * 3 + 2, none⟩ = some (.int .i64 (p : Int)))
      (first | go_keep | (have hb2 : Below w1.heap.size w1 w2 := Below.grown (B := w1.heap.size) (a := w1) (Below.drew (by go_grown)) hg1 (by simp) (fun k hk => by simp [Value.ownBlock] at hk; omega); go_split_ands; exact ⟨cell_next p0 hb2, cell_next p1 hb2, cell_next c2 hb2⟩))
      ((refine step_app (by rfl) _ _ _ (by rfl) w.heap.size 3 i0 _ 1 8 Try.underlying27 hi hz0 hz1 hz2 rfl (by omega) (.slice (some ⟨w1.heap.size, 0, none⟩) 0 0) 0 [] (by rfl) (by exact row_empty _ _ _ hbb.size) ax p cx (vt.map iv) (by rfl) (by exact Hs.out _ (Below.drew (hbb.trans (by go_grown)))) (by unfold maxLen; omega) (by omega) (by simp; exact Nat.le_trans hbb.size (by omega)) ?_; intro v1 w2 hown1 hg1 hat1))
    have hb2 : Below w1.heap.size w1 w2 := Below.grown (B := w1.heap.size) (a := w1) (Below.drew (by go_grown)) hg1 (by simp) (fun k hk => by simp [Value.ownBlock] at hk; omega)
    have hown2 : w2.ownsRow w.heap.size 3 1 v1 p (vt.map iv) := by simpa using hown1
    have ho := own_ints hown2 Hg.out
    have hv : ∃ a' cap', v1 = .slice a' p cap' := by
      rcases hown2.2 with ⟨rfl, h0⟩ | ⟨g, cp, cur, rfl, _⟩
      · exact ⟨none, 0, by rw [h0]⟩
      · exact ⟨_, _, rfl⟩
    obtain ⟨a', cap', rfl⟩ := hv
    clear hown1 hown2 hg1 hat1 hi hz0 hz1 hz2
    go_wp2
    go_ret
    exact ⟨⟨_, _, rfl, ho⟩, hbb.trans (hb2.mono hbb.size)⟩

set_option maxHeartbeats 3200000 in
theorem specHaveSameKey_c {a0 ax ay : Option Addr} {cap0 cx cy : Nat} {l : List Rel} {x y : Fct} {w : World} (h : At (cSlice cRel) w l [.slice a0 l.length cap0]) (h1 : At cFct w x [.int .i64 x.rel, .slice ax x.vals.length cx]) (h2 : At cFct w y [.int .i64 y.rel, .slice ay y.vals.length cy]) :
    Calls Try.prog 39 #[.slice a0 l.length cap0, .agg #[.int .i64 x.rel, .slice ax x.vals.length cx], .agg #[.int .i64 y.rel, .slice ay y.vals.length cy]] w fun e w' => e = .returned (.bool (haveKey l x y)) ∧ Below w.heap.size w w' := by
  have HB : haveKey l x y = (validFact l x && (validFact l y && (decide (x.rel = y.rel) && (cmpL (keyVals l x) (keyVals l y) == 0)))) := by
    unfold haveKey sameKey keyVals
    cases hx : validFact l x <;> cases hy : validFact l y <;> simp
    by_cases hr : x.rel = y.rel
    · rw [hr]
      have : ∀ a b : List Int, decide (a = b) = (cmpL a b == 0) := fun a b => by
        by_cases h : a = b
        · rw [decide_eq_true h, (cmpL_zero a b).2 h]; rfl
        · have h2 : cmpL a b ≠ 0 := fun h3 => h ((cmpL_zero a b).1 h3)
          rw [decide_eq_false h]; simp [h2]
      rw [this]
    · simp [hr]
  have H1 : Hid (∀ ww, Below w.heap.size w ww → Calls Try.prog 35 #[.slice a0 l.length cap0, .agg #[.int .i64 x.rel, .slice ax x.vals.length cx]] ww fun e w' => e = .returned (.bool (validFact l x)) ∧ Below ww.heap.size ww w') :=
    fun ww hb => specIsValidFact_c (At.below h hb (Nat.le_refl _)) (At.below h1 hb (Nat.le_refl _))
  have H2 : Hid (∀ ww, Below w.heap.size w ww → Calls Try.prog 35 #[.slice a0 l.length cap0, .agg #[.int .i64 y.rel, .slice ay y.vals.length cy]] ww fun e w' => e = .returned (.bool (validFact l y)) ∧ Below ww.heap.size ww w') :=
    fun ww hb => specIsValidFact_c (At.below h hb (Nat.le_refl _)) (At.below h2 hb (Nat.le_refl _))
  have K1 : Hid (∀ ww, Below w.heap.size w ww → Calls Try.prog 48 #[.slice a0 l.length cap0, .agg #[.int .i64 x.rel, .slice ax x.vals.length cx]] ww fun e w' => (∃ a cap, e = .returned (.slice a (keyVals l x).length cap) ∧ Own (cSlice cInt) ww.heap.size w' (keyVals l x) [.slice a (keyVals l x).length cap]) ∧ Below ww.heap.size ww w') :=
    fun ww hb => specKeyOf_c (At.below h hb (Nat.le_refl _)) (At.below h1 hb (Nat.le_refl _))
  have K2 : Hid (∀ ww, Below w.heap.size w ww → Calls Try.prog 48 #[.slice a0 l.length cap0, .agg #[.int .i64 y.rel, .slice ay y.vals.length cy]] ww fun e w' => (∃ a cap, e = .returned (.slice a (keyVals l y).length cap) ∧ Own (cSlice cInt) ww.heap.size w' (keyVals l y) [.slice a (keyVals l y).length cap]) ∧ Below ww.heap.size ww w') :=
    fun ww hb => specKeyOf_c (At.below h hb (Nat.le_refl _)) (At.below h2 hb (Nat.le_refl _))
  have K3 : Hid (∀ ww a a' c c', At (cSlice cInt) ww (keyVals l x) [.slice a (keyVals l x).length c] → At (cSlice cInt) ww (keyVals l y) [.slice a' (keyVals l y).length c'] → Calls Try.prog 46 #[.slice a (keyVals l x).length c, .slice a' (keyVals l y).length c'] ww fun e w' => e = .returned (.int .i64 (cmpL (keyVals l x) (keyVals l y))) ∧ Below ww.heap.size ww w') :=
    fun ww a a' c c' hA hB => specl3Ints_c hA hB
  rw [HB]
  clear h h1 h2 HB
  generalize validFact l x = V at *
  generalize validFact l y = U at *
  generalize keyVals l x = kx at *
  generalize keyVals l y = ky at *
  generalize cmpL kx ky = z at *
  obtain ⟨rx, vx⟩ := x
  obtain ⟨ry, vy⟩ := y
  simp only at *
  generalize vx.length = n at *
  generalize vy.length = m at *
  generalize l.length = nl at *
  obtain ⟨wx, hwx⟩ : ∃ wx, wx = (w.alloc (Obj.cells #[.int .i64 rx, .slice ax n cx] 59)).alloc (Obj.cells #[.int .i64 ry, .slice ay m cy] 59) := ⟨_, rfl⟩
  have hb0 : Below w.heap.size w wx := by rw [hwx]; go_grown
  have p0 : wx.cell? ⟨w.heap.size, 0, none⟩ = some (.int .i64 rx) := by rw [hwx]; go_simp
  have p1 : wx.cell? ⟨w.heap.size, 1, none⟩ = some (.slice ax n cx) := by rw [hwx]; go_simp
  have r0 : wx.cell? ⟨w.heap.size + 1, 0, none⟩ = some (.int .i64 ry) := by rw [hwx]; go_simp
  have r1 : wx.cell? ⟨w.heap.size + 1, 1, none⟩ = some (.slice ay m cy) := by rw [hwx]; go_simp
  have Hwx := Lib.hid hwx
  clear hwx
  have P0 := grow_cell p0
  have P1 := grow_cell p1
  have R0 := grow_cell r0
  have R1 := grow_cell r1
  have hfin : Hid (∀ (b : Bool) (nq : Grow wx), ∃ w', w' = nq.W ∧ Below w.heap.size w w') := fun b nq => ⟨_, rfl, hb0.trans (nq.below.mono hb0.size)⟩
  cases V with
  | false =>
    rw [Bool.false_and]
    clear p0 p1 r0 r1
    go_enter Try.func39, Try.ntmps39
    go_wp2_with fail
    rw [← Hwx.out]
    refine wp_region_grow (by kernel_rfl) (by kernel_rfl) ?_
    repeat (go_big_quiet_step ((go_at_call 35; exact Calls.grow fun ww h => H1.out ww (hb0.trans (h.mono hb0.size)))))
    refine wpQuiet_nil ?_
    rintro _ ⟨nq, rfl⟩
    go_wp2
    go_ret
    exact ⟨rfl, hb0.trans (nq.below.mono hb0.size)⟩
  | true =>
    rw [Bool.true_and]
    cases U with
    | false =>
      rw [Bool.false_and]
      clear p0 p1 r0 r1
      go_enter Try.func39, Try.ntmps39
      go_wp2_with fail
      rw [← Hwx.out]
      refine wp_region_grow (by kernel_rfl) (by kernel_rfl) ?_
      repeat (go_big_quiet_step (first | ((go_at_call_of 35 (Value.agg #[.int .i64 rx, .slice ax n cx])); exact Calls.grow fun ww h => H1.out ww (hb0.trans (h.mono hb0.size))) | ((go_at_call_of 35 (Value.agg #[.int .i64 ry, .slice ay m cy])); exact Calls.grow fun ww h => H2.out ww (hb0.trans (h.mono hb0.size)))))
      refine wpQuiet_nil ?_
      rintro _ ⟨nq, rfl⟩
      go_wp2
      go_ret
      exact ⟨rfl, hb0.trans (nq.below.mono hb0.size)⟩
    | true =>
      rw [Bool.true_and]
      by_cases hr : rx = ry
      · subst hr
        rw [decide_eq_true rfl, Bool.true_and]
        clear P0 P1 R0 R1 hfin
        have hbb := hb0
        clear hb0
        go_enter Try.func39, Try.ntmps39
        go_wp2_with fail
        rw [← Hwx.out]
        clear Hwx
        go_region_held3 (fun w' => w'.cell? ⟨w.heap.size, 0, none⟩ = some (.int .i64 rx) ∧ w'.cell? ⟨w.heap.size, 1, none⟩ = some (.slice ax n cx) ∧ w'.cell? ⟨w.heap.size + 1, 0, none⟩ = some (.int .i64 rx) ∧ w'.cell? ⟨w.heap.size + 1, 1, none⟩ = some (.slice ay m cy))
          (first | go_keep | (go_split_ands; exact ⟨p0, p1, r0, r1⟩))
          (first
            | (go_at_call_of 35 (Value.agg #[.int .i64 rx, .slice ax n cx]); refine (H1.out _ (by first | exact hbb | exact hbb.drew | exact Below.drewN' hbb _)).mono ?_; rintro e wy ⟨rfl, hb⟩; replace p0 := cell_next p0 hb; replace p1 := cell_next p1 hb; replace r0 := cell_next r0 hb; replace r1 := cell_next r1 hb; (try replace sx := At.next sx hb); replace hbb := Below.next hbb hb; clear hb)
            | (go_at_call_of 35 (Value.agg #[.int .i64 rx, .slice ay m cy]); refine (H2.out _ (by first | exact hbb | exact hbb.drew | exact Below.drewN' hbb _)).mono ?_; rintro e wy ⟨rfl, hb⟩; replace p0 := cell_next p0 hb; replace p1 := cell_next p1 hb; replace r0 := cell_next r0 hb; replace r1 := cell_next r1 hb; (try replace sx := At.next sx hb); replace hbb := Below.next hbb hb; clear hb)
            | (go_at_call_of 48 (Value.agg #[.int .i64 rx, .slice ax n cx]); refine (K1.out _ (by first | exact hbb | exact hbb.drew | exact Below.drewN' hbb _)).mono ?_; rintro e wy ⟨⟨ka, kc, rfl, q⟩, hb⟩; have sx := q.at; clear q; replace p0 := cell_next p0 hb; replace p1 := cell_next p1 hb; replace r0 := cell_next r0 hb; replace r1 := cell_next r1 hb; replace hbb := Below.next hbb hb; clear hb)
            | (go_at_call_of 48 (Value.agg #[.int .i64 rx, .slice ay m cy]); refine (K2.out _ (by first | exact hbb | exact hbb.drew | exact Below.drewN' hbb _)).mono ?_; rintro e wy ⟨⟨ka, kc, rfl, q⟩, hb⟩; have sy := q.at; clear q; replace p0 := cell_next p0 hb; replace p1 := cell_next p1 hb; replace r0 := cell_next r0 hb; replace r1 := cell_next r1 hb; (try replace sx := At.next sx hb); replace hbb := Below.next hbb hb; clear hb)
            | (go_at_call 46; refine (K3.out _ _ _ _ _ (At.here sx) (At.here sy)).mono ?_; rintro e wy ⟨rfl, hb⟩; replace p0 := cell_next p0 hb; replace p1 := cell_next p1 hb; replace r0 := cell_next r0 hb; replace r1 := cell_next r1 hb; replace hbb := Below.next hbb hb; clear hb))
        all_goals
          go_wp2
          go_ret
          exact ⟨by first | rfl | simp, hbb⟩
      · have hre : (rx == ry) = false := by simp [hr]
        rw [decide_eq_false hr, Bool.false_and]
        clear p0 p1 r0 r1 hr
        go_enter Try.func39, Try.ntmps39
        go_wp2_with fail
        rw [← Hwx.out]
        refine wp_region_grow (by kernel_rfl) (by kernel_rfl) ?_
        repeat (go_big_quiet_step (first | ((go_at_call_of 35 (Value.agg #[.int .i64 rx, .slice ax n cx])); exact Calls.grow fun ww h => H1.out ww (hb0.trans (h.mono hb0.size))) | ((go_at_call_of 35 (Value.agg #[.int .i64 ry, .slice ay m cy])); exact Calls.grow fun ww h => H2.out ww (hb0.trans (h.mono hb0.size)))))
        refine wpQuiet_nil ?_
        rintro _ ⟨nq, rfl⟩
        go_wp2
        go_ret
        exact ⟨rfl, hb0.trans (nq.below.mono hb0.size)⟩
end Go.Proofs.Ytpofglamcaikfaa

