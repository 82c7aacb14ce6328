/- Chapter 9: ViolatesConstraint, the model's and the program's. -/
import Derived.Test.YtpfljebndnfpmaaCon
namespace Go.Proofs.Ytpfljebndnfpmaa
open Go.RowKit
set_option linter.unusedVariables false
set_option maxRecDepth 100000

/-- A column's value of a fact. -/
def valAt (x : Fct) (c : Int) : Int := x.vals.getD c.toNat 0
/-- Two facts that a constraint forbids. -/
def forb (c : Dcn) (x y : Fct) : Bool := decide (x.rel = c.r1) && (decide (y.rel = c.r2) && (decide (valAt x c.j1 = valAt y c.j2) && (if c.cmp = 2 then decide (valAt x c.c1 < valAt y c.c2) else decide (valAt x c.c1 = valAt y c.c2))))
/-- The constraint's columns are columns of the fact. -/
def hasCols (x : Fct) (j c : Int) : Prop := 0 ≤ j ∧ j < (x.vals.length : Int) ∧ 0 ≤ c ∧ c < (x.vals.length : Int)
def forbAt (d : Dbs) (c : Dcn) (i k : Int) : Bool := match d.facts[i.toNat]?, d.facts[k.toNat]? with | some x, some y => forb c x y | _, _ => false
def violates (d : Dbs) (c : Dcn) (i k : Int) : Bool := validCon d c && (inB i 0 ((d.facts.length : Int) - 1) && (inB k 0 ((d.facts.length : Int) - 1) && (!decide (i = k) && forbAt d c i k)))
theorem validDb_fact {d : Dbs} (h : validDb d = true) (k : Nat) (hk : k < d.facts.length) : validFact d.rels d.facts[k] = true := by
  rw [validDb_eq] at h
  simp only [Bool.and_eq_true] at h
  exact List.all_eq_true.1 h.2.1 _ (List.getElem_mem hk)
theorem con_cols {d : Dbs} {c : Dcn} (h : validCon d c = true) (k : Nat) (hk : k < d.facts.length) : (d.facts[k].rel = c.r1 → hasCols d.facts[k] c.j1 c.c1) ∧ (d.facts[k].rel = c.r2 → hasCols d.facts[k] c.j2 c.c2) := by
  unfold validCon fits colOk inB at h
  simp only [Bool.and_eq_true, decide_eq_true_eq] at h
  obtain ⟨h0, ⟨_, h1⟩, ⟨_, h2⟩, ⟨_, h3⟩, ⟨_, h4⟩, _⟩ := h
  have hf := validDb_fact h0 k hk
  unfold validFact inB at hf
  simp only [Bool.and_eq_true, decide_eq_true_eq] at hf
  obtain ⟨_, _, h5, _⟩ := hf
  refine ⟨fun e => ?_, fun e => ?_⟩
  · rw [e] at h5
    exact ⟨h1.1, by omega, h2.1, by omega⟩
  · rw [e] at h5
    exact ⟨h3.1, by omega, h4.1, by omega⟩
theorem con_cmp {d : Dbs} {c : Dcn} (h : validCon d c = true) : c.cmp = 1 ∨ c.cmp = 2 := by
  unfold validCon fits inB at h
  simp only [Bool.and_eq_true, decide_eq_true_eq] at h
  have := h.2.2.2.2.2
  omega
theorem valAt_nat {x : Fct} {j : Nat} (h : j < x.vals.length) : valAt x (j : Int) = x.vals[j] := by unfold valAt; simp [h]

set_option maxHeartbeats 3200000 in
theorem isForbidden_c {ax ay : Option Addr} {cx cy : Nat} {c : Dcn} {x y : Fct} {w : World} (h1 : At cFct w x [.int .i64 x.rel, .slice ax x.vals.length cx]) (h2 : At cFct w y [.int .i64 y.rel, .slice ay y.vals.length cy])
    (hx : x.rel = c.r1 → hasCols x c.j1 c.c1) (hy : y.rel = c.r2 → hasCols y c.j2 c.c2) :
    Calls Try.prog 153 #[.agg #[.int .i64 c.r1, .int .i64 c.r2, .int .i64 c.j1, .int .i64 c.j2, .int .i64 c.c1, .int .i64 c.c2, .int .i64 c.cmp], .agg #[.int .i64 x.rel, .slice ax x.vals.length cx], .agg #[.int .i64 y.rel, .slice ay y.vals.length cy]] w fun e w' => e = .returned (.bool (forb c x y)) ∧ Below w.heap.size w w' := by
  have hX := (cFct_inv h1).1
  have hY := (cFct_inv h2).1
  have hmx := (slice_len hX).2
  have hmy := (slice_len hY).2
  unfold maxLen at hmx hmy
  have HX : Hid (∀ w' : World, Below w.heap.size w w' → ∀ j (hj : j < x.vals.length), _) := fun w' hb j hj => ints_at (Cod.ok_below hX hb) j hj
  have HY : Hid (∀ w' : World, Below w.heap.size w w' → ∀ j (hj : j < y.vals.length), _) := fun w' hb j hj => ints_at (Cod.ok_below hY hb) j hj
  clear h1 h2 hX hY
  unfold forb
  by_cases hrx : x.rel = c.r1
  · by_cases hry : y.rel = c.r2
    · obtain ⟨ha, hb, hc, hd⟩ := hx hrx
      obtain ⟨ha', hb', hc', hd'⟩ := hy hry
      rw [decide_eq_true hrx, decide_eq_true hry, Bool.true_and, Bool.true_and]
      clear hx hy
      obtain ⟨r1, r2, j1, j2, c1, c2, cm⟩ := c
      simp only at *
      obtain ⟨j1, rfl⟩ := Int.eq_ofNat_of_zero_le ha
      obtain ⟨c1, rfl⟩ := Int.eq_ofNat_of_zero_le hc
      obtain ⟨j2, rfl⟩ := Int.eq_ofNat_of_zero_le ha'
      obtain ⟨c2, rfl⟩ := Int.eq_ofNat_of_zero_le hc'
      have hj1 : j1 < x.vals.length := by omega
      have hc1 : c1 < x.vals.length := by omega
      have hj2 : j2 < y.vals.length := by omega
      have hc2 : c2 < y.vals.length := by omega
      rw [valAt_nat hj1, valAt_nat hc1, valAt_nat hj2, valAt_nat hc2]
      obtain ⟨rx, vx⟩ := x
      obtain ⟨ry, vy⟩ := y
      simp only at *
      subst hrx
      subst hry
      obtain ⟨b, off, rfl, hbB, u1⟩ := HX.out _ (Below.refl _ _) j1 hj1
      obtain ⟨b', off', e', hbB', u2⟩ := HX.out _ (Below.refl _ _) c1 hc1
      obtain ⟨rfl, rfl⟩ : b = b' ∧ off = off' := by simp at e'; exact e'
      obtain ⟨d, of2, rfl, hdB, v1⟩ := HY.out _ (Below.refl _ _) j2 hj2
      obtain ⟨d', of2', e2, hdB', v2⟩ := HY.out _ (Below.refl _ _) c2 hc2
      obtain ⟨rfl, rfl⟩ : d = d' ∧ of2 = of2' := by simp at e2; exact e2
      clear HX HY e' e2 hbB' hdB'
      generalize vx[j1] = p at *
      generalize vx[c1] = q at *
      generalize vy[j2] = p' at *
      generalize vy[c2] = q' at *
      obtain ⟨n, hn⟩ : ∃ n : Nat, vx.length = n := ⟨_, rfl⟩
      obtain ⟨m, hm⟩ : ∃ n : Nat, vy.length = n := ⟨_, rfl⟩
      rw [hn] at hj1 hc1 hmx hb hd ⊢
      rw [hm] at hj2 hc2 hmy hb' hd' ⊢
      clear hn hm
      obtain ⟨wx, hwx⟩ : ∃ wx, wx = ((w.alloc (Obj.cells #[.int .i64 rx, .int .i64 ry, .int .i64 j1, .int .i64 j2, .int .i64 c1, .int .i64 c2, .int .i64 cm] 92)).alloc (Obj.cells #[.int .i64 rx, .slice (some ⟨b, off, none⟩) n cx] 157)).alloc (Obj.cells #[.int .i64 ry, .slice (some ⟨d, of2, none⟩) m cy] 157) := ⟨_, rfl⟩
      have hb0 : Below w.heap.size w wx := by rw [hwx]; go_grown
      have a0_ : wx.cell? ⟨w.heap.size, 0, none⟩ = some (.int .i64 rx) := by rw [hwx]; go_simp
      have a1_ : wx.cell? ⟨w.heap.size, 1, none⟩ = some (.int .i64 ry) := by rw [hwx]; go_simp
      have a2_ : wx.cell? ⟨w.heap.size, 2, none⟩ = some (.int .i64 j1) := by rw [hwx]; go_simp
      have a3_ : wx.cell? ⟨w.heap.size, 3, none⟩ = some (.int .i64 j2) := by rw [hwx]; go_simp
      have a4_ : wx.cell? ⟨w.heap.size, 4, none⟩ = some (.int .i64 c1) := by rw [hwx]; go_simp
      have a5_ : wx.cell? ⟨w.heap.size, 5, none⟩ = some (.int .i64 c2) := by rw [hwx]; go_simp
      have a6_ : wx.cell? ⟨w.heap.size, 6, none⟩ = some (.int .i64 cm) := by rw [hwx]; go_simp
      have b0_ : wx.cell? ⟨w.heap.size + 1, 0, none⟩ = some (.int .i64 rx) := by rw [hwx]; go_simp
      have b1_ : wx.cell? ⟨w.heap.size + 1, 1, none⟩ = some (.slice (some ⟨b, off, none⟩) n cx) := by rw [hwx]; go_simp
      have d0_ : wx.cell? ⟨w.heap.size + 1 + 1, 0, none⟩ = some (.int .i64 ry) := by rw [hwx]; go_simp
      have d1_ : wx.cell? ⟨w.heap.size + 1 + 1, 1, none⟩ = some (.slice (some ⟨d, of2, none⟩) m cy) := by rw [hwx]; go_simp
      replace u1 := cell_next u1 hb0
      replace u2 := cell_next u2 hb0
      replace v1 := cell_next v1 hb0
      replace v2 := cell_next v2 hb0
      have Hwx := Lib.hid hwx
      clear hwx
      have Ga0_ := grow_cell a0_
      have Ga1_ := grow_cell a1_
      have Ga2_ := grow_cell a2_
      have Ga3_ := grow_cell a3_
      have Ga4_ := grow_cell a4_
      have Ga5_ := grow_cell a5_
      have Ga6_ := grow_cell a6_
      have Gb0_ := grow_cell b0_
      have Gb1_ := grow_cell b1_
      have Gd0_ := grow_cell d0_
      have Gd1_ := grow_cell d1_
      have Gu1 := grow_cell u1
      have Gu2 := grow_cell u2
      have Gv1 := grow_cell v1
      have Gv2 := grow_cell v2
      clear a0_ a1_ a2_ a3_ a4_ a5_ a6_ b0_ b1_ d0_ d1_ u1 u2 v1 v2
      have i1 : (0 : Int) ≤ (j1 : Int) := Int.natCast_nonneg _
      have i2 : (0 : Int) ≤ (j2 : Int) := Int.natCast_nonneg _
      have i3 : (0 : Int) ≤ (c1 : Int) := Int.natCast_nonneg _
      have i4 : (0 : Int) ≤ (c2 : Int) := Int.natCast_nonneg _
      by_cases hpp : p = p'
      · subst hpp
        rw [decide_eq_true rfl, Bool.true_and]
        go_enter Try.func153, Try.ntmps153
        go_wp2_with fail
        rw [← Hwx.out]
        clear Hwx
        refine wp_region_grow (by kernel_rfl) (by kernel_rfl) ?_
        repeat (go_big_quiet_step (fail))
        refine wpQuiet_nil ?_
        rintro _ ⟨nq, rfl⟩
        have hb1 := hb0.trans (nq.below.mono hb0.size)
        replace Ga0_ := grow_cell (Ga0_ nq)
        replace Ga1_ := grow_cell (Ga1_ nq)
        replace Ga2_ := grow_cell (Ga2_ nq)
        replace Ga3_ := grow_cell (Ga3_ nq)
        replace Ga4_ := grow_cell (Ga4_ nq)
        replace Ga5_ := grow_cell (Ga5_ nq)
        replace Ga6_ := grow_cell (Ga6_ nq)
        replace Gb0_ := grow_cell (Gb0_ nq)
        replace Gb1_ := grow_cell (Gb1_ nq)
        replace Gd0_ := grow_cell (Gd0_ nq)
        replace Gd1_ := grow_cell (Gd1_ nq)
        replace Gu1 := grow_cell (Gu1 nq)
        replace Gu2 := grow_cell (Gu2 nq)
        replace Gv1 := grow_cell (Gv1 nq)
        replace Gv2 := grow_cell (Gv2 nq)
        generalize nq.W = wy at *
        clear nq
        go_wp2_with fail
        refine wp_region_grow (by kernel_rfl) (by kernel_rfl) ?_
        repeat (go_big_quiet_step (fail))
        refine wpQuiet_nil ?_
        rintro _ ⟨nr, rfl⟩
        have hb2 := hb1.trans (nr.below.mono hb1.size)
        have k6 := Ga6_ nr
        by_cases hc2 : cm = 2
        · subst hc2
          go_wp2
          go_ret
          exact ⟨by first | rfl | simp, hb2⟩
        · have e2 : (cm == 2) = false := by simp [hc2]
          go_wp2
          go_ret
          exact ⟨by first | rfl | (simp [hc2]; done) | (simp [hc2]; rfl) | (simp [hc2, Bool.eq_iff_iff]; done), hb2⟩
      · have hne : (p != p') = true := by simp [hpp]
        rw [decide_eq_false hpp, Bool.false_and]
        go_enter Try.func153, Try.ntmps153
        go_wp2_with fail
        rw [← Hwx.out]
        clear Hwx
        refine wp_region_grow (by kernel_rfl) (by kernel_rfl) ?_
        repeat (go_big_quiet_step (fail))
        refine wpQuiet_nil ?_
        rintro _ ⟨nq, rfl⟩
        have hb1 := hb0.trans (nq.below.mono hb0.size)
        go_wp2
        go_ret
        exact ⟨rfl, hb1⟩
    · rw [decide_eq_true hrx, decide_eq_false hry, Bool.true_and, Bool.false_and]
      have hne : (y.rel != c.r2) = true := by simp [hry]
      have he : (x.rel != c.r1) = false := by simp [hrx]
      clear hx hy HX HY hrx hry
      obtain ⟨r1, r2, j1, j2, c1, c2, cm⟩ := c
      obtain ⟨rx, vx⟩ := x
      obtain ⟨ry, vy⟩ := y
      simp only at *
      generalize vx.length = n at *
      generalize vy.length = m at *
      go_enter Try.func153, Try.ntmps153
      go_wp2
      go_ret
      exact ⟨rfl, by go_grown⟩
  · rw [decide_eq_false hrx, Bool.false_and]
    have hne : (x.rel != c.r1) = true := by simp [hrx]
    clear hx hy HX HY hrx
    obtain ⟨r1, r2, j1, j2, c1, c2, cm⟩ := c
    obtain ⟨rx, vx⟩ := x
    obtain ⟨ry, vy⟩ := y
    simp only at *
    generalize vx.length = n at *
    generalize vy.length = m at *
    go_enter Try.func153, Try.ntmps153
    go_wp2
    go_ret
    exact ⟨rfl, by go_grown⟩

end Go.Proofs.Ytpfljebndnfpmaa
