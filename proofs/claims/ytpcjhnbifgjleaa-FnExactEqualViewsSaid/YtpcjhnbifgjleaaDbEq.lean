/- Chapter 4: EqualDatabases, the model's and the program's. -/
import Derived.Test.YtpcjhnbifgjleaaEq2
import Derived.Test.YtpcjhnbifgjleaaFactIdx
import Derived.Test.YtpcjhnbifgjleaaKeyOne
namespace Go.Proofs.Ytpcjhnbifgjleaa
open Go.RowKit
set_option linter.unusedVariables false
set_option maxRecDepth 100000

theorem cmpF_beq (x y : Fct) : (cmpF x y == 0) = decide (x = y) := by
  by_cases h : x = y
  · rw [decide_eq_true h, (cmpF_zero x y).2 h]; rfl
  · have h2 : cmpF x y ≠ 0 := fun h3 => h ((cmpF_zero x y).1 h3)
    rw [decide_eq_false h]; simp [h2]
set_option maxHeartbeats 1600000 in
theorem slicesEqualFacts_c {a a' : Option Addr} {cap cap' : Nat} {l m : List Fct} {w : World} (h : At (cSlice cFct) w l [.slice a l.length cap]) (h' : At (cSlice cFct) w m [.slice a' m.length cap']) :
    Calls Try.prog 35 #[.slice a l.length cap, .slice a' m.length cap', .func (.func 36) #[] #[]] w fun e w' => e = .returned (.bool (decide (l = m))) ∧ Below w.heap.size w w' := by
  have hm := (slice_len h).2
  have hm' := (slice_len h').2
  unfold maxLen at hm hm'
  by_cases hne : l.length = m.length
  · obtain ⟨n, hn⟩ : ∃ n : Nat, l.length = n := ⟨_, rfl⟩
    have Hr : Hid (∀ w' : World, Below w.heap.size w w' → ∀ j (hj : j < l.length), _) := fun w' hb j hj => at_Fact (Cod.ok_below h hb) j hj
    have Hr' : Hid (∀ w' : World, Below w.heap.size w w' → ∀ j (hj : j < m.length), _) := fun w' hb j hj => at_Fact (Cod.ok_below h' hb) j hj
    clear h h'
    rw [← hne, hn]
    have Hn := Lib.hid hn
    have Hm : Hid (m.length = n) := by rw [← hne]; exact hn
    have hm2 : n ≤ 9223372036854775807 := by omega
    generalize hR : decide (l = m) = R
    have HR : Hid (decide (l.drop 0 = m.drop 0) = R) := hR
    clear hR hne hn hm hm'
    go_enter Try.func35, Try.ntmps35
    go_wp2
    go_loopw [17] (fun iv wr => ∃ k : Nat, k ≤ n ∧ iv = .int .i64 k ∧ Hid (decide (l.drop k = m.drop k) = R) ∧ Below w.heap.size w wr) (fun iv _ => n - (intOf iv).toNat)
    case atStart => exact ⟨0, by omega, by go_num, HR, Below.refl _ _⟩
    case round =>
      clear HR
      obtain ⟨k, hk, rfl, Hq, hb⟩ := hrel
      by_cases hlt : k < n
      · have hkl : k < l.length := by rw [Hn.out]; exact hlt
        have hkm : k < m.length := by rw [Hm.out]; exact hlt
        have Hst : Hid (R = (decide (l[k] = m[k]) && decide (l.drop (k + 1) = m.drop (k + 1)))) := by
          show R = _
          rw [← Hq.out, ← Bool.decide_and]; congr 1; rw [List.drop_eq_getElem_cons hkl, List.drop_eq_getElem_cons hkm, List.cons.injEq]
        obtain ⟨b, off, av, cv, rfl, hbB, c0, c1, hx⟩ := Hr.out _ hb k hkl
        obtain ⟨b', off', av', cv', rfl, hbB', d0, d1, hy⟩ := Hr'.out _ hb k hkm
        have hA : At cFct wr l[k] [.int .i64 l[k].rel, .slice av l[k].vals.length cv] := cFct.keep hx (fun _ _ => rfl) hb.size
        have hA' : At cFct wr m[k] [.int .i64 m[k].rel, .slice av' m[k].vals.length cv'] := cFct.keep hy (fun _ _ => rfl) hb.size
        have Hc : Hid (∀ ww, Below wr.heap.size wr ww → Calls Try.prog 36 #[.agg #[.int .i64 l[k].rel, .slice av l[k].vals.length cv], .agg #[.int .i64 m[k].rel, .slice av' m[k].vals.length cv']] ww fun e w' => e = .returned (.bool (decide (l[k] = m[k]))) ∧ Below ww.heap.size ww w') :=
          fun ww hw2 => cmpF_beq l[k] m[k] ▸ equalFacts_c (At.below hA hw2 (Nat.le_refl _)) (At.below hA' hw2 (Nat.le_refl _))
        clear hx hy hA hA' Hq
        generalize decide (l[k] = m[k]) = z at *
        generalize l[k] = r at *
        generalize m[k] = r' at *
        have l0 := World.block_lt_of_cell? wr _ c0
        have l1 := World.block_lt_of_cell? wr _ d0
        simp only at l0 l1
        cases z with
        | true =>
          go_wp2_with fail
          refine (Hc.out _ ?hb).mono ?_
          case hb => go_grown
          rintro e w2 ⟨rfl, hb2⟩
          have hbr : Below wr.heap.size wr w2 := Below.trans (by go_grown) (hb2.mono (by simp; try omega))
          go_wp2
          go_roundw
          case rel => exact ⟨k + 1, by omega, by go_num, by have h := Hst.out; rw [Bool.true_and] at h; exact h.symm, hb.trans (hbr.mono hb.size)⟩
          case measure => simp [intOf]; omega
        | false =>
          have hR : R = false := by have h := Hst.out; rw [Bool.false_and] at h; exact h
          go_wp2_with fail
          refine (Hc.out _ ?hb).mono ?_
          case hb => go_grown
          rintro e w2 ⟨rfl, hb2⟩
          have hbr : Below wr.heap.size wr w2 := Below.trans (by go_grown) (hb2.mono (by simp; try omega))
          go_wp2
          go_ret
          exact ⟨by rw [hR]; rfl, hb.trans (hbr.mono hb.size)⟩
      · obtain rfl : k = n := by omega
        have hR : R = true := by
          have := Hq.out
          rw [List.drop_eq_nil_of_le (by rw [Hn.out]; exact Nat.le_refl _), List.drop_eq_nil_of_le (by rw [Hm.out]; exact Nat.le_refl _)] at this
          simpa using this.symm
        go_wp2
        go_ret
        exact ⟨by rw [hR]; rfl, hb⟩
  · rw [decide_eq_false (fun e => hne (by rw [e]))]
    have hne2 : (l.length != m.length) = true := by simpa using hne
    go_enter Try.func35, Try.ntmps35
    go_wp2
    go_ret
    exact ⟨rfl, Below.refl _ _⟩
/-- EqualDatabases' answer. -/
def eqDbs (x y : Dbs) : Bool := decide (x.rels = y.rels) && decide (x.facts = y.facts)
set_option maxHeartbeats 1600000 in
theorem implEqualDatabases_c {a0 a1 : Option Addr} {cap0 cap1 : Nat} {x : Dbs} {b0 b1 : Option Addr} {cb0 cb1 : Nat} {y : Dbs} {w : World} (h : At cDbs w x [.slice a0 x.rels.length cap0, .slice a1 x.facts.length cap1]) (h' : At cDbs w y [.slice b0 y.rels.length cb0, .slice b1 y.facts.length cb1]) :
    Calls Try.prog 18 #[.agg #[.slice a0 x.rels.length cap0, .slice a1 x.facts.length cap1], .agg #[.slice b0 y.rels.length cb0, .slice b1 y.facts.length cb1]] w fun e w' => e = .returned (.bool (eqDbs x y)) ∧ Below w.heap.size w w' := by
  have H1 : Hid (∀ ww, Below w.heap.size w ww → Calls Try.prog 34 #[.slice a0 x.rels.length cap0, .slice b0 y.rels.length cb0] ww fun e w' => e = .returned (.bool (decide (x.rels = y.rels))) ∧ Below ww.heap.size ww w') :=
    fun ww hb => slicesEqualRel_c (At.below (cDbs_inv h).1 hb (Nat.le_refl _)) (At.below (cDbs_inv h').1 hb (Nat.le_refl _))
  have H2 : Hid (∀ ww, Below w.heap.size w ww → Calls Try.prog 35 #[.slice a1 x.facts.length cap1, .slice b1 y.facts.length cb1, .func (.func 36) #[] #[]] ww fun e w' => e = .returned (.bool (decide (x.facts = y.facts))) ∧ Below ww.heap.size ww w') :=
    fun ww hb => slicesEqualFacts_c (At.below (cDbs_inv h).2 hb (Nat.le_refl _)) (At.below (cDbs_inv h').2 hb (Nat.le_refl _))
  clear h h'
  unfold eqDbs
  generalize decide (x.rels = y.rels) = V at *
  generalize decide (x.facts = y.facts) = U at *
  obtain ⟨xr, xf⟩ := x
  obtain ⟨yr, yf⟩ := y
  simp only at *
  generalize xr.length = n0 at *
  generalize xf.length = n1 at *
  generalize yr.length = m0 at *
  generalize yf.length = m1 at *
  obtain ⟨wx, hwx⟩ : ∃ wx, wx = (w.alloc (Obj.cells #[.slice a0 n0 cap0, .slice a1 n1 cap1] 38)).alloc (Obj.cells #[.slice b0 m0 cb0, .slice b1 m1 cb1] 38) := ⟨_, rfl⟩
  have hb0 : Below w.heap.size w wx := by rw [hwx]; go_grown
  have p0 : wx.cell? ⟨w.heap.size, 0, none⟩ = some (.slice a0 n0 cap0) := by rw [hwx]; go_simp
  have p1 : wx.cell? ⟨w.heap.size, 1, none⟩ = some (.slice a1 n1 cap1) := by rw [hwx]; go_simp
  have r0 : wx.cell? ⟨w.heap.size + 1, 0, none⟩ = some (.slice b0 m0 cb0) := by rw [hwx]; go_simp
  have r1 : wx.cell? ⟨w.heap.size + 1, 1, none⟩ = some (.slice b1 m1 cb1) := by rw [hwx]; go_simp
  have Hwx := Lib.hid hwx
  clear hwx
  go_enter Try.func18, Try.ntmps18
  go_wp2_with fail
  rw [← Hwx.out]
  clear Hwx
  refine (H1.out _ hb0).mono ?_
  rintro e w1 ⟨rfl, hb1⟩
  have hbb : Below w.heap.size w w1 := hb0.trans (hb1.mono hb0.size)
  cases V with
  | false =>
    go_wp2
    go_ret
    exact ⟨rfl, hbb⟩
  | true =>
    replace p1 := (hb1.cell (World.block_lt_of_cell? wx _ p1)).trans p1
    replace r1 := (hb1.cell (World.block_lt_of_cell? wx _ r1)).trans r1
    clear hb0 hb1 H1 p0 r0
    go_wp2_with fail
    refine (H2.out _ hbb).mono ?_
    rintro e w2 ⟨rfl, hb2⟩
    go_wp2
    go_ret
    exact ⟨rfl, hbb.trans (hb2.mono hbb.size)⟩
set_option maxHeartbeats 3200000 in
theorem specEqualDatabases_c {a0 a1 : Option Addr} {cap0 cap1 : Nat} {x : Dbs} {b0 b1 : Option Addr} {cb0 cb1 : Nat} {y : Dbs} {w : World} (h : At cDbs w x [.slice a0 x.rels.length cap0, .slice a1 x.facts.length cap1]) (h' : At cDbs w y [.slice b0 y.rels.length cb0, .slice b1 y.facts.length cb1]) :
    Calls Try.prog 12 #[.agg #[.slice a0 x.rels.length cap0, .slice a1 x.facts.length cap1], .agg #[.slice b0 y.rels.length cb0, .slice b1 y.facts.length cb1]] w fun e w' => e = .returned (.bool (eqDbs x y)) ∧ Below w.heap.size w w' := by
  have hx0 := (cDbs_inv h).1
  have hx1 := (cDbs_inv h).2
  have hy0 := (cDbs_inv h').1
  have hy1 := (cDbs_inv h').2
  have hm0 := (slice_len hx0).2
  have hm1 := (slice_len hx1).2
  have hm0' := (slice_len hy0).2
  have hm1' := (slice_len hy1).2
  unfold maxLen at hm0 hm1 hm0' hm1'
  have HR0 : Hid (∀ w' : World, Below w.heap.size w w' → ∀ j (hj : j < x.rels.length), _) := fun w' hb j hj => at_Relation (Cod.ok_below hx0 hb) j hj
  have HR0' : Hid (∀ w' : World, Below w.heap.size w w' → ∀ j (hj : j < y.rels.length), _) := fun w' hb j hj => at_Relation (Cod.ok_below hy0 hb) j hj
  have HF : Hid (∀ w' : World, Below w.heap.size w w' → ∀ j (hj : j < x.facts.length), _) := fun w' hb j hj => at_Fact (Cod.ok_below hx1 hb) j hj
  have HF' : Hid (∀ w' : World, Below w.heap.size w w' → ∀ j (hj : j < y.facts.length), _) := fun w' hb j hj => at_Fact (Cod.ok_below hy1 hb) j hj
  clear h h' hx0 hx1 hy0 hy1
  obtain ⟨l, f⟩ := x
  obtain ⟨m, g⟩ := y
  unfold eqDbs
  simp only at *
  by_cases hne : l.length = m.length
  · by_cases hnf : f.length = g.length
    · obtain ⟨n, hn⟩ : ∃ n : Nat, l.length = n := ⟨_, rfl⟩
      obtain ⟨q, hq⟩ : ∃ n : Nat, f.length = n := ⟨_, rfl⟩
      have Hn := Lib.hid hn
      have Hm : Hid (m.length = n) := by rw [← hne]; exact hn
      have Hq := Lib.hid hq
      have Hg : Hid (g.length = q) := by rw [← hnf]; exact hq
      rw [hn] at hm0 ⊢
      rw [hq] at hm1 ⊢
      rw [← hne, hn] at hm0' ⊢
      rw [← hnf, hq] at hm1' ⊢
      generalize hR : decide (l = m) = R
      have HR : Hid (decide (l.drop 0 = m.drop 0) = R) := hR
      generalize hT : decide (f = g) = T
      have HT : Hid (decide (f.drop 0 = g.drop 0) = T) := hT
      clear hR hT hne hnf hn hq
      obtain ⟨wx, hwx⟩ : ∃ wx, wx = (w.alloc (Obj.cells #[.slice a0 n cap0, .slice a1 q cap1] 38)).alloc (Obj.cells #[.slice b0 n cb0, .slice b1 q cb1] 38) := ⟨_, rfl⟩
      have hb0 : Below w.heap.size w wx := by rw [hwx]; go_grown
      have p0 : wx.cell? ⟨w.heap.size, 0, none⟩ = some (.slice a0 n cap0) := by rw [hwx]; go_simp
      have p1 : wx.cell? ⟨w.heap.size, 1, none⟩ = some (.slice a1 q cap1) := by rw [hwx]; go_simp
      have r0 : wx.cell? ⟨w.heap.size + 1, 0, none⟩ = some (.slice b0 n cb0) := by rw [hwx]; go_simp
      have r1 : wx.cell? ⟨w.heap.size + 1, 1, none⟩ = some (.slice b1 q cb1) := by rw [hwx]; go_simp
      have Hwx := Lib.hid hwx
      clear hwx
      go_enter Try.func12, Try.ntmps12
      go_wp2_with fail
      rw [← Hwx.out]
      clear Hwx
      go_loopw [5] (fun iv wr => ∃ k : Nat, k ≤ n ∧ iv = .int .i64 k ∧ Hid (decide (l.drop k = m.drop k) = R) ∧ Below wx.heap.size wx wr) (fun iv _ => n - (intOf iv).toNat)
      case atStart => exact ⟨0, by omega, by go_num, HR, Below.refl _ _⟩
      case round =>
        clear HR
        obtain ⟨k, hk, rfl, Hk, hbx⟩ := hrel
        have P0 := (hbx.cell (World.block_lt_of_cell? wx _ p0)).trans p0
        have P1 := (hbx.cell (World.block_lt_of_cell? wx _ p1)).trans p1
        have Q0 := (hbx.cell (World.block_lt_of_cell? wx _ r0)).trans r0
        have Q1 := (hbx.cell (World.block_lt_of_cell? wx _ r1)).trans r1
        have hb : Below w.heap.size w wr := hb0.trans (hbx.mono hb0.size)
        clear p0 p1 r0 r1
        by_cases hlt : k < n
        · have hkl : k < l.length := by rw [Hn.out]; exact hlt
          have hkm : k < m.length := by rw [Hm.out]; exact hlt
          have Hst : Hid (R = (decide (l[k] = m[k]) && decide (l.drop (k + 1) = m.drop (k + 1)))) := by
            show R = _
            rw [← Hk.out, ← Bool.decide_and]; congr 1; rw [List.drop_eq_getElem_cons hkl, List.drop_eq_getElem_cons hkm, List.cons.injEq]
          obtain ⟨b, off, rfl, hbB, c0, c1, c2, hx⟩ := HR0.out _ hb k hkl
          obtain ⟨b', off', rfl, hbB', d0, d1, d2, hy⟩ := HR0'.out _ hb k hkm
          clear hx hy Hk
          have C0 := grow_cell c0
          have C1 := grow_cell c1
          have C2 := grow_cell c2
          have D0 := grow_cell d0
          have D1 := grow_cell d1
          have D2 := grow_cell d2
          have E0 := grow_cell P0
          have F0 := grow_cell Q0
          clear c0 c1 c2 d0 d1 d2
          have g1 := Try.eqGuardType60
          have g2 := Try.stoodInHeld60
          generalize l[k] = r at *
          generalize m[k] = r' at *
          by_cases he : r = r'
          · subst he
            have hst := Hst.out
            rw [decide_eq_true rfl, Bool.true_and] at hst
            have Hst2 := Lib.hid hst.symm
            clear hst Hst
            go_wp2_with fail
            refine wp_region_grow (by kernel_rfl) (by kernel_rfl) ?_
            repeat (go_big_quiet_step (fail))
            refine wpQuiet_nil ?_
            rintro _ ⟨nq, rfl⟩
            go_wp2
            go_roundw
            case rel => exact ⟨k + 1, by omega, by go_num, Hst2, hbx.trans (nq.below.mono hbx.size)⟩
            case measure => simp [intOf]; omega
          · have hR : R = false := by have := Hst.out; rw [decide_eq_false he, Bool.false_and] at this; exact this
            clear Hst
            obtain ⟨n1, a1, k1⟩ := r
            obtain ⟨n2, a2, k2⟩ := r'
            simp only at *
            have hcase : (n1.toList ≠ n2.toList) ∨ (n1.toList = n2.toList ∧ a1 ≠ a2) ∨ (n1.toList = n2.toList ∧ a1 = a2 ∧ k1 ≠ k2) := by
              by_cases hn1 : n1.toList = n2.toList
              · by_cases hn2 : a1 = a2
                · refine .inr (.inr ⟨hn1, hn2, fun h3 => ?_⟩)
                  have hnm : n1 = n2 := by have := name_beq n1 n2; rw [hn1] at this; simpa using this
                  exact he (by rw [hnm, hn2, h3])
                · exact .inr (.inl ⟨hn1, hn2⟩)
              · exact .inl hn1
            clear he
            rcases hcase with hn1 | ⟨hn1, hn2⟩ | ⟨hn1, hn2, hn3⟩
            all_goals
              go_wp2_with fail
              refine wp_region_grow (by kernel_rfl) (by kernel_rfl) ?_
              repeat (go_big_quiet_step (fail))
              refine wpQuiet_nil ?_
              rintro _ ⟨nq, rfl⟩
              go_wp2
              go_ret
              exact ⟨by rw [hR]; rfl, hb.trans (nq.below.mono hb.size)⟩
        · obtain rfl : k = n := by omega
          have hR : R = true := by
            have := Hk.out
            rw [List.drop_eq_nil_of_le (by rw [Hn.out]; exact Nat.le_refl _), List.drop_eq_nil_of_le (by rw [Hm.out]; exact Nat.le_refl _)] at this
            simpa using this.symm
          have HR1 := Lib.hid hR
          clear hR Hk hb0
          obtain ⟨wq, hwq⟩ : ∃ wq, wq = wr := ⟨_, rfl⟩
          subst hwq
          go_wp2
          go_loopw [6] (fun iv wr => ∃ k : Nat, k ≤ q ∧ iv = .int .i64 k ∧ Hid (decide (f.drop k = g.drop k) = T) ∧ Below wq.heap.size wq wr) (fun iv _ => q - (intOf iv).toNat)
          case atStart => exact ⟨0, by omega, by go_num, HT, Below.refl _ _⟩
          case round =>
            clear HT
            obtain ⟨j, hj, rfl, Hj, hby⟩ := hrel
            have hb2 : Below w.heap.size w wr := hb.trans (hby.mono hb.size)
            replace P1 := (hby.cell (World.block_lt_of_cell? wq _ P1)).trans P1
            replace Q1 := (hby.cell (World.block_lt_of_cell? wq _ Q1)).trans Q1
            clear P0 Q0
            by_cases hlt : j < q
            · have hkl : j < f.length := by rw [Hq.out]; exact hlt
              have hkm : j < g.length := by rw [Hg.out]; exact hlt
              have Hst : Hid (T = (decide (f[j] = g[j]) && decide (f.drop (j + 1) = g.drop (j + 1)))) := by
                show T = _
                rw [← Hj.out, ← Bool.decide_and]; congr 1; rw [List.drop_eq_getElem_cons hkl, List.drop_eq_getElem_cons hkm, List.cons.injEq]
              obtain ⟨b, off, av, cv, rfl, hbB, c0, c1, hx⟩ := HF.out _ hb2 j hkl
              obtain ⟨b', off', av', cv', rfl, hbB', d0, d1, hy⟩ := HF'.out _ hb2 j hkm
              have hA : At cFct wr f[j] [.int .i64 f[j].rel, .slice av f[j].vals.length cv] := cFct.keep hx (fun _ _ => rfl) hb2.size
              have hA' : At cFct wr g[j] [.int .i64 g[j].rel, .slice av' g[j].vals.length cv'] := cFct.keep hy (fun _ _ => rfl) hb2.size
              have Hc : Hid (∀ ww, Below wr.heap.size wr ww → Calls Try.prog 28 #[.agg #[.int .i64 f[j].rel, .slice av f[j].vals.length cv], .agg #[.int .i64 g[j].rel, .slice av' g[j].vals.length cv']] ww fun e w' => e = .returned (.int .i64 (cmpF f[j] g[j])) ∧ Below ww.heap.size ww w') :=
                fun ww hw2 => specCompareFacts_c (At.below hA hw2 (Nat.le_refl _)) (At.below hA' hw2 (Nat.le_refl _))
              have Hz := Lib.hid (cmpF_beq f[j] g[j])
              have C0 := grow_cell c0
              have C1 := grow_cell c1
              have D0 := grow_cell d0
              have D1 := grow_cell d1
              have E0 := grow_cell P1
              have F0 := grow_cell Q1
              clear hx hy hA hA' Hj c0 c1 d0 d1
              generalize decide (f[j] = g[j]) = z at *
              generalize cmpF f[j] g[j] = zz at *
              generalize f[j] = r at *
              generalize g[j] = r' at *
              cases z with
              | true =>
                have hz0 : zz = 0 := by have := Hz.out; simpa using this
                subst hz0
                go_wp2_with fail
                refine wp_region_grow (by kernel_rfl) (by kernel_rfl) ?_
                repeat (go_big_quiet_step ((go_at_call 28; exact Calls.grow fun ww h => Hc.out ww h)))
                refine wpQuiet_nil ?_
                rintro _ ⟨nq, rfl⟩
                go_wp2
                go_roundw
                case rel => exact ⟨j + 1, by omega, by go_num, by have h := Hst.out; rw [Bool.true_and] at h; exact h.symm, hby.trans (nq.below.mono hby.size)⟩
                case measure => simp [intOf]; omega
              | false =>
                have hzz : (zz != 0) = true := by have := Hz.out; simp at this; simp [this]
                have hT : T = false := by have h := Hst.out; rw [Bool.false_and] at h; exact h
                go_wp2_with fail
                refine wp_region_grow (by kernel_rfl) (by kernel_rfl) ?_
                repeat (go_big_quiet_step ((go_at_call 28; exact Calls.grow fun ww h => Hc.out ww h)))
                refine wpQuiet_nil ?_
                rintro _ ⟨nq, rfl⟩
                go_wp2
                go_ret
                exact ⟨by rw [HR1.out, hT]; rfl, hb2.trans (nq.below.mono hb2.size)⟩
            · obtain rfl : j = q := by omega
              have hT : T = true := by
                have := Hj.out
                rw [List.drop_eq_nil_of_le (by rw [Hq.out]; exact Nat.le_refl _), List.drop_eq_nil_of_le (by rw [Hg.out]; exact Nat.le_refl _)] at this
                simpa using this.symm
              go_wp2
              go_ret
              exact ⟨by rw [HR1.out, hT]; rfl, hb2⟩
    · rw [decide_eq_false (p := f = g) (fun e => hnf (by rw [e])), Bool.and_false]
      have hne2 : (f.length != g.length) = true := by simpa using hnf
      clear HR0 HR0' HF HF' hnf
      rw [← hne]
      generalize f.length = q at *
      generalize g.length = q' at *
      clear hne
      go_enter Try.func12, Try.ntmps12
      go_wp2
      go_ret
      exact ⟨rfl, by go_grown⟩
  · rw [decide_eq_false (p := l = m) (fun e => hne (by rw [e])), Bool.false_and]
    have hne2 : (l.length != m.length) = true := by simpa using hne
    clear HR0 HR0' HF HF' hne
    generalize l.length = n at *
    generalize m.length = n' at *
    go_enter Try.func12, Try.ntmps12
    go_wp2
    go_ret
    exact ⟨rfl, by go_grown⟩
end Go.Proofs.Ytpcjhnbifgjleaa

