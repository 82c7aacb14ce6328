/- Chapter 9: ViolatesConstraint, the model's. -/
import Derived.Test.YtpfljebndnfpmaaViol
namespace Go.Proofs.Ytpfljebndnfpmaa
open Go.RowKit
set_option linter.unusedVariables false
set_option maxRecDepth 100000

set_option maxHeartbeats 6400000 in
theorem specViolatesConstraint_c {a0 a1 : Option Addr} {cap0 cap1 : Nat} {x : Dbs} {c : Dcn} {w : World} {i k : Int} (h : At cDbs w x [.slice a0 x.rels.length cap0, .slice a1 x.facts.length cap1]) (hc : At cDcn w c [.int .i64 c.r1, .int .i64 c.r2, .int .i64 c.j1, .int .i64 c.j2, .int .i64 c.c1, .int .i64 c.c2, .int .i64 c.cmp]) :
    Calls Try.prog 107 #[.agg #[.slice a0 x.rels.length cap0, .slice a1 x.facts.length cap1], .agg #[.int .i64 c.r1, .int .i64 c.r2, .int .i64 c.j1, .int .i64 c.j2, .int .i64 c.c1, .int .i64 c.c2, .int .i64 c.cmp], .int .i64 i, .int .i64 k] w fun e w' => e = .returned (.bool (violates x c i k)) ∧ Below w.heap.size w w' := by
  have hx1 := (cDbs_inv h).2
  have hm := (slice_len hx1).2
  unfold maxLen at hm
  have HF : Hid (∀ w' : World, Below w.heap.size w w' → ∀ j (hj : j < x.facts.length), _) := fun w' hb j hj => at_Fact (Cod.ok_below hx1 hb) j hj
  have H1 : Hid (∀ ww, Below w.heap.size w ww → Calls Try.prog 148 #[.agg #[.slice a0 x.rels.length cap0, .slice a1 x.facts.length cap1], .agg #[.int .i64 c.r1, .int .i64 c.r2, .int .i64 c.j1, .int .i64 c.j2, .int .i64 c.c1, .int .i64 c.c2, .int .i64 c.cmp]] ww fun e w' => e = .returned (.bool (validCon x c)) ∧ Below ww.heap.size ww w') :=
    fun ww hb => specIsValidConstraint_c (At.below h hb (Nat.le_refl _)) (At.below hc hb (Nat.le_refl _))
  have HC : Hid (validCon x c = true → ∀ j (hj : j < x.facts.length), (x.facts[j].rel = c.r1 → hasCols x.facts[j] c.j1 c.c1) ∧ (x.facts[j].rel = c.r2 → hasCols x.facts[j] c.j2 c.c2)) := fun hv j hj => con_cols hv j hj
  have HM : Hid (validCon x c = true → c.cmp = 1 ∨ c.cmp = 2) := fun hv => con_cmp hv
  clear h hc hx1
  unfold violates
  obtain ⟨xr, l⟩ := x
  simp only at *
  obtain ⟨nf, hn⟩ : ∃ n : Nat, l.length = n := ⟨_, rfl⟩
  have Hn := Lib.hid hn
  rw [hn] at hm H1 ⊢
  clear hn
  generalize xr.length = n0 at *
  generalize hVV : validCon ⟨xr, l⟩ c = V at *
  clear hVV
  have hwn : wrap64 ((nf : Int) - 1) = (nf : Int) - 1 := IntWalk.wrap64_in _ ⟨by omega, by omega⟩
  have hI : inB i 0 ((nf : Int) - 1) = true → 0 ≤ i ∧ i ≤ (nf : Int) - 1 := by unfold inB; simp
  have hK : inB k 0 ((nf : Int) - 1) = true → 0 ≤ k ∧ k ≤ (nf : Int) - 1 := by unfold inB; simp
  have HI : Hid (∀ ww, Calls Try.prog 95 #[.int .i64 i, .int .i64 0, .int .i64 ((nf : Int) - 1)] ww fun e w' => e = .returned (.bool (inB i 0 ((nf : Int) - 1))) ∧ ww = w') := fun ww => l1In_any _ _ _ _
  have HK : Hid (∀ ww, Calls Try.prog 95 #[.int .i64 k, .int .i64 0, .int .i64 ((nf : Int) - 1)] ww fun e w' => e = .returned (.bool (inB k 0 ((nf : Int) - 1))) ∧ ww = w') := fun ww => l1In_any _ _ _ _
  generalize hII : inB i 0 ((nf : Int) - 1) = I at *
  generalize hKK : inB k 0 ((nf : Int) - 1) = K at *
  clear hII hKK
  cases V with
  | false =>
    clear HF HC HM hI hK
    rw [Bool.false_and]
    obtain ⟨r1, r2, j1, j2, c1, c2, cm⟩ := c
    simp only at *
    obtain ⟨wx, hwx⟩ : ∃ wx, wx = (w.alloc (Obj.cells #[.slice a0 n0 cap0, .slice a1 nf cap1] 34)).alloc (Obj.cells #[.int .i64 r1, .int .i64 r2, .int .i64 j1, .int .i64 j2, .int .i64 c1, .int .i64 c2, .int .i64 cm] 92) := ⟨_, rfl⟩
    have hb0 : Below w.heap.size w wx := by rw [hwx]; go_grown
    have q0 : wx.cell? ⟨w.heap.size, 0, none⟩ = some (.slice a0 n0 cap0) := by rw [hwx]; go_simp
    have q1 : wx.cell? ⟨w.heap.size, 1, none⟩ = some (.slice a1 nf cap1) := by rw [hwx]; go_simp
    have p0 : wx.cell? ⟨w.heap.size + 1, 0, none⟩ = some (.int .i64 r1) := by rw [hwx]; go_simp
    have p1 : wx.cell? ⟨w.heap.size + 1, 1, none⟩ = some (.int .i64 r2) := by rw [hwx]; go_simp
    have p2 : wx.cell? ⟨w.heap.size + 1, 2, none⟩ = some (.int .i64 j1) := by rw [hwx]; go_simp
    have p3 : wx.cell? ⟨w.heap.size + 1, 3, none⟩ = some (.int .i64 j2) := by rw [hwx]; go_simp
    have p4 : wx.cell? ⟨w.heap.size + 1, 4, none⟩ = some (.int .i64 c1) := by rw [hwx]; go_simp
    have p5 : wx.cell? ⟨w.heap.size + 1, 5, none⟩ = some (.int .i64 c2) := by rw [hwx]; go_simp
    have p6 : wx.cell? ⟨w.heap.size + 1, 6, none⟩ = some (.int .i64 cm) := by rw [hwx]; go_simp
    have Hwx := Lib.hid hwx
    clear hwx
    go_enter Try.func107, Try.ntmps107
    go_wp2_with fail
    rw [← Hwx.out]
    clear Hwx
    refine (H1.out _ hb0).mono ?_
    rintro e w1 ⟨rfl, hb1⟩
    have hbb : Below w.heap.size w w1 := hb0.trans (hb1.mono hb0.size)
    go_wp2
    go_ret
    exact ⟨by first | rfl | simp, hbb⟩
  | true =>
    rw [Bool.true_and]
    cases I with
    | false =>
      clear HF HC HM hI hK
      rw [Bool.false_and]
      obtain ⟨r1, r2, j1, j2, c1, c2, cm⟩ := c
      simp only at *
      obtain ⟨wx, hwx⟩ : ∃ wx, wx = (w.alloc (Obj.cells #[.slice a0 n0 cap0, .slice a1 nf cap1] 34)).alloc (Obj.cells #[.int .i64 r1, .int .i64 r2, .int .i64 j1, .int .i64 j2, .int .i64 c1, .int .i64 c2, .int .i64 cm] 92) := ⟨_, rfl⟩
      have hb0 : Below w.heap.size w wx := by rw [hwx]; go_grown
      have q0 : wx.cell? ⟨w.heap.size, 0, none⟩ = some (.slice a0 n0 cap0) := by rw [hwx]; go_simp
      have q1 : wx.cell? ⟨w.heap.size, 1, none⟩ = some (.slice a1 nf cap1) := by rw [hwx]; go_simp
      have p0 : wx.cell? ⟨w.heap.size + 1, 0, none⟩ = some (.int .i64 r1) := by rw [hwx]; go_simp
      have p1 : wx.cell? ⟨w.heap.size + 1, 1, none⟩ = some (.int .i64 r2) := by rw [hwx]; go_simp
      have p2 : wx.cell? ⟨w.heap.size + 1, 2, none⟩ = some (.int .i64 j1) := by rw [hwx]; go_simp
      have p3 : wx.cell? ⟨w.heap.size + 1, 3, none⟩ = some (.int .i64 j2) := by rw [hwx]; go_simp
      have p4 : wx.cell? ⟨w.heap.size + 1, 4, none⟩ = some (.int .i64 c1) := by rw [hwx]; go_simp
      have p5 : wx.cell? ⟨w.heap.size + 1, 5, none⟩ = some (.int .i64 c2) := by rw [hwx]; go_simp
      have p6 : wx.cell? ⟨w.heap.size + 1, 6, none⟩ = some (.int .i64 cm) := by rw [hwx]; go_simp
      have Hwx := Lib.hid hwx
      clear hwx
      go_enter Try.func107, Try.ntmps107
      go_wp2_with fail
      rw [← Hwx.out]
      clear Hwx
      refine (H1.out _ hb0).mono ?_
      rintro e w1 ⟨rfl, hb1⟩
      have hbb : Below w.heap.size w w1 := hb0.trans (hb1.mono hb0.size)
      replace q0 := cell_next q0 hb1
      replace q1 := cell_next q1 hb1
      replace p0 := cell_next p0 hb1
      replace p1 := cell_next p1 hb1
      replace p2 := cell_next p2 hb1
      replace p3 := cell_next p3 hb1
      replace p4 := cell_next p4 hb1
      replace p5 := cell_next p5 hb1
      replace p6 := cell_next p6 hb1
      clear hb0 hb1 H1
      go_wp2_with fail
      refine (HI.out _).mono ?_
      rintro e w' ⟨rfl, rfl⟩
      go_wp2
      go_ret
      exact ⟨by first | rfl | simp, hbb⟩
    | true =>
      rw [Bool.true_and]
      cases K with
      | false =>
        clear HF HC HM hI hK
        rw [Bool.false_and]
        obtain ⟨r1, r2, j1, j2, c1, c2, cm⟩ := c
        simp only at *
        obtain ⟨wx, hwx⟩ : ∃ wx, wx = (w.alloc (Obj.cells #[.slice a0 n0 cap0, .slice a1 nf cap1] 34)).alloc (Obj.cells #[.int .i64 r1, .int .i64 r2, .int .i64 j1, .int .i64 j2, .int .i64 c1, .int .i64 c2, .int .i64 cm] 92) := ⟨_, rfl⟩
        have hb0 : Below w.heap.size w wx := by rw [hwx]; go_grown
        have q0 : wx.cell? ⟨w.heap.size, 0, none⟩ = some (.slice a0 n0 cap0) := by rw [hwx]; go_simp
        have q1 : wx.cell? ⟨w.heap.size, 1, none⟩ = some (.slice a1 nf cap1) := by rw [hwx]; go_simp
        have p0 : wx.cell? ⟨w.heap.size + 1, 0, none⟩ = some (.int .i64 r1) := by rw [hwx]; go_simp
        have p1 : wx.cell? ⟨w.heap.size + 1, 1, none⟩ = some (.int .i64 r2) := by rw [hwx]; go_simp
        have p2 : wx.cell? ⟨w.heap.size + 1, 2, none⟩ = some (.int .i64 j1) := by rw [hwx]; go_simp
        have p3 : wx.cell? ⟨w.heap.size + 1, 3, none⟩ = some (.int .i64 j2) := by rw [hwx]; go_simp
        have p4 : wx.cell? ⟨w.heap.size + 1, 4, none⟩ = some (.int .i64 c1) := by rw [hwx]; go_simp
        have p5 : wx.cell? ⟨w.heap.size + 1, 5, none⟩ = some (.int .i64 c2) := by rw [hwx]; go_simp
        have p6 : wx.cell? ⟨w.heap.size + 1, 6, none⟩ = some (.int .i64 cm) := by rw [hwx]; go_simp
        have Hwx := Lib.hid hwx
        clear hwx
        go_enter Try.func107, Try.ntmps107
        go_wp2_with fail
        rw [← Hwx.out]
        clear Hwx
        refine (H1.out _ hb0).mono ?_
        rintro e w1 ⟨rfl, hb1⟩
        have hbb : Below w.heap.size w w1 := hb0.trans (hb1.mono hb0.size)
        replace q0 := cell_next q0 hb1
        replace q1 := cell_next q1 hb1
        replace p0 := cell_next p0 hb1
        replace p1 := cell_next p1 hb1
        replace p2 := cell_next p2 hb1
        replace p3 := cell_next p3 hb1
        replace p4 := cell_next p4 hb1
        replace p5 := cell_next p5 hb1
        replace p6 := cell_next p6 hb1
        clear hb0 hb1 H1
        go_wp2_with fail
        refine (HI.out _).mono ?_
        rintro e w' ⟨rfl, rfl⟩
        go_wp2_with fail
        refine (HK.out _).mono ?_
        rintro e w' ⟨rfl, rfl⟩
        go_wp2
        go_ret
        exact ⟨by first | rfl | simp, hbb⟩
      | true =>
        rw [Bool.true_and]
        by_cases hik : i = k
        · rw [decide_eq_true hik]
          have hne : (i == k) = true := by simp [hik]
          clear HF HC HM hI hK hik
          obtain ⟨r1, r2, j1, j2, c1, c2, cm⟩ := c
          simp only at *
          obtain ⟨wx, hwx⟩ : ∃ wx, wx = (w.alloc (Obj.cells #[.slice a0 n0 cap0, .slice a1 nf cap1] 34)).alloc (Obj.cells #[.int .i64 r1, .int .i64 r2, .int .i64 j1, .int .i64 j2, .int .i64 c1, .int .i64 c2, .int .i64 cm] 92) := ⟨_, rfl⟩
          have hb0 : Below w.heap.size w wx := by rw [hwx]; go_grown
          have q0 : wx.cell? ⟨w.heap.size, 0, none⟩ = some (.slice a0 n0 cap0) := by rw [hwx]; go_simp
          have q1 : wx.cell? ⟨w.heap.size, 1, none⟩ = some (.slice a1 nf cap1) := by rw [hwx]; go_simp
          have p0 : wx.cell? ⟨w.heap.size + 1, 0, none⟩ = some (.int .i64 r1) := by rw [hwx]; go_simp
          have p1 : wx.cell? ⟨w.heap.size + 1, 1, none⟩ = some (.int .i64 r2) := by rw [hwx]; go_simp
          have p2 : wx.cell? ⟨w.heap.size + 1, 2, none⟩ = some (.int .i64 j1) := by rw [hwx]; go_simp
          have p3 : wx.cell? ⟨w.heap.size + 1, 3, none⟩ = some (.int .i64 j2) := by rw [hwx]; go_simp
          have p4 : wx.cell? ⟨w.heap.size + 1, 4, none⟩ = some (.int .i64 c1) := by rw [hwx]; go_simp
          have p5 : wx.cell? ⟨w.heap.size + 1, 5, none⟩ = some (.int .i64 c2) := by rw [hwx]; go_simp
          have p6 : wx.cell? ⟨w.heap.size + 1, 6, none⟩ = some (.int .i64 cm) := by rw [hwx]; go_simp
          have Hwx := Lib.hid hwx
          clear hwx
          go_enter Try.func107, Try.ntmps107
          go_wp2_with fail
          rw [← Hwx.out]
          clear Hwx
          refine (H1.out _ hb0).mono ?_
          rintro e w1 ⟨rfl, hb1⟩
          have hbb : Below w.heap.size w w1 := hb0.trans (hb1.mono hb0.size)
          replace q0 := cell_next q0 hb1
          replace q1 := cell_next q1 hb1
          replace p0 := cell_next p0 hb1
          replace p1 := cell_next p1 hb1
          replace p2 := cell_next p2 hb1
          replace p3 := cell_next p3 hb1
          replace p4 := cell_next p4 hb1
          replace p5 := cell_next p5 hb1
          replace p6 := cell_next p6 hb1
          clear hb0 hb1 H1
          go_wp2_with fail
          refine (HI.out _).mono ?_
          rintro e w' ⟨rfl, rfl⟩
          go_wp2_with fail
          refine (HK.out _).mono ?_
          rintro e w' ⟨rfl, rfl⟩
          go_wp2
          go_ret
          exact ⟨by first | rfl | simp, hbb⟩
        · rw [decide_eq_false hik, Bool.not_false, Bool.true_and]
          obtain ⟨ha, hb⟩ := hI rfl
          obtain ⟨ha', hb'⟩ := hK rfl
          clear hI hK
          obtain ⟨i, rfl⟩ := Int.eq_ofNat_of_zero_le ha
          obtain ⟨k, rfl⟩ := Int.eq_ofNat_of_zero_le ha'
          have hi : i < l.length := by rw [Hn.out]; omega
          have hk : k < l.length := by rw [Hn.out]; omega
          have hlti : (i : Int) < (nf : Int) := by omega
          have hltk : (k : Int) < (nf : Int) := by omega
          have hne : ((i : Int) == (k : Int)) = false := by simp; omega
          have hne2 : (i == k) = false := by simp; omega
          have hci := (HC.out rfl i hi).1
          have hck := (HC.out rfl k hk).2
          have hcm := HM.out rfl
          have hfa : forbAt ⟨xr, l⟩ c (i : Int) (k : Int) = forb c l[i] l[k] := by
            unfold forbAt
            rw [show (i : Int).toNat = i from rfl, show (k : Int).toNat = k from rfl, List.getElem?_eq_getElem hi, List.getElem?_eq_getElem hk]
          rw [hfa]
          clear hfa HC HM hik ha ha' hb hb'
          have Hci := Lib.hid hci
          have Hck := Lib.hid hck
          have Hcm := Lib.hid hcm
          clear hci hck hcm
          obtain ⟨b, off, av, cv, rfl, hbB, x0, x1, hx⟩ := HF.out _ (Below.refl _ _) i hi
          obtain ⟨b', off', av', cv', e', hbB', y0, y1, hy⟩ := HF.out _ (Below.refl _ _) k hk
          obtain ⟨rfl, rfl⟩ : b = b' ∧ off = off' := by simp at e'; exact e'
          have hX := (cFct_inv hx).1
          have hY := (cFct_inv hy).1
          have hmx := (slice_len hX).2
          have hmy := (slice_len hY).2
          unfold maxLen at hmx hmy
          have HX : Hid (∀ j (hj : j < l[i].vals.length), _) := fun j hj => ints_at hX j hj
          have HY : Hid (∀ j (hj : j < l[k].vals.length), _) := fun j hj => ints_at hY j hj
          clear e' hx hy hX hY hbB' HF
          unfold forb
          generalize l[i] = x at *
          generalize l[k] = y at *
          obtain ⟨rx, vx⟩ := x
          obtain ⟨ry, vy⟩ := y
          obtain ⟨r1, r2, j1, j2, c1, c2, cm⟩ := c
          simp only at *
          by_cases hrx : rx = r1
          · by_cases hry : ry = r2
            · subst hrx
              subst hry
              rw [decide_eq_true rfl, decide_eq_true rfl, Bool.true_and, Bool.true_and]
              obtain ⟨ha, hb, hc, hd⟩ := Hci.out rfl
              obtain ⟨ha', hb', hc', hd'⟩ := Hck.out rfl
              simp only at ha hb hc hd ha' hb' hc' hd'
              clear Hci Hck
              obtain ⟨j1, rfl⟩ := Int.eq_ofNat_of_zero_le ha
              obtain ⟨c1, rfl⟩ := Int.eq_ofNat_of_zero_le hc
              obtain ⟨j2, rfl⟩ := Int.eq_ofNat_of_zero_le ha'
              obtain ⟨c2, rfl⟩ := Int.eq_ofNat_of_zero_le hc'
              have hj1 : j1 < vx.length := by omega
              have hc1 : c1 < vx.length := by omega
              have hj2 : j2 < vy.length := by omega
              have hc2 : c2 < vy.length := by omega
              rw [valAt_nat (x := ⟨rx, vx⟩) hj1, valAt_nat (x := ⟨rx, vx⟩) hc1, valAt_nat (x := ⟨ry, vy⟩) hj2, valAt_nat (x := ⟨ry, vy⟩) hc2]
              obtain ⟨d, of1, rfl, hdB, u1⟩ := HX.out j1 hj1
              obtain ⟨d', of1', e', hdB', u2⟩ := HX.out c1 hc1
              obtain ⟨rfl, rfl⟩ : d = d' ∧ of1 = of1' := by simp at e'; exact e'
              obtain ⟨f, of2, rfl, hfB, v1⟩ := HY.out j2 hj2
              obtain ⟨f', of2', e2, hfB', v2⟩ := HY.out c2 hc2
              obtain ⟨rfl, rfl⟩ : f = f' ∧ of2 = of2' := by simp at e2; exact e2
              clear HX HY e' e2 hdB' hfB' ha hb hc hd ha' hb' hc' hd'
              simp only
              generalize vx[j1] = p at *
              generalize vx[c1] = q at *
              generalize vy[j2] = p' at *
              generalize vy[c2] = q' at *
              obtain ⟨n, hn⟩ : ∃ n : Nat, vx.length = n := ⟨_, rfl⟩
              obtain ⟨m, hm2⟩ : ∃ n : Nat, vy.length = n := ⟨_, rfl⟩
              rw [hn] at hj1 hc1 hmx x1
              rw [hm2] at hj2 hc2 hmy y1
              clear hn hm2
              have i1 : (0 : Int) ≤ (j1 : Int) := Int.natCast_nonneg _
              have i2 : (0 : Int) ≤ (j2 : Int) := Int.natCast_nonneg _
              have i3 : (0 : Int) ≤ (c1 : Int) := Int.natCast_nonneg _
              have i4 : (0 : Int) ≤ (c2 : Int) := Int.natCast_nonneg _
              by_cases hpp : p = p'
              · subst hpp
                rw [decide_eq_true rfl, Bool.true_and]
                rcases Hcm.out with hcm | hcm
                · subst hcm
                  clear Hcm
                  obtain ⟨wx, hwx⟩ : ∃ wx, wx = (w.alloc (Obj.cells #[.slice a0 n0 cap0, .slice (some ⟨b, off, none⟩) nf cap1] 34)).alloc (Obj.cells #[.int .i64 rx, .int .i64 ry, .int .i64 j1, .int .i64 j2, .int .i64 c1, .int .i64 c2, .int .i64 1] 92) := ⟨_, rfl⟩
                  have hb0 : Below w.heap.size w wx := by rw [hwx]; go_grown
                  have q0 : wx.cell? ⟨w.heap.size, 0, none⟩ = some (.slice a0 n0 cap0) := by rw [hwx]; go_simp
                  have q1 : wx.cell? ⟨w.heap.size, 1, none⟩ = some (.slice (some ⟨b, off, none⟩) nf cap1) := by rw [hwx]; go_simp
                  have p0 : wx.cell? ⟨w.heap.size + 1, 0, none⟩ = some (.int .i64 rx) := by rw [hwx]; go_simp
                  have p1 : wx.cell? ⟨w.heap.size + 1, 1, none⟩ = some (.int .i64 ry) := by rw [hwx]; go_simp
                  have p2 : wx.cell? ⟨w.heap.size + 1, 2, none⟩ = some (.int .i64 j1) := by rw [hwx]; go_simp
                  have p3 : wx.cell? ⟨w.heap.size + 1, 3, none⟩ = some (.int .i64 j2) := by rw [hwx]; go_simp
                  have p4 : wx.cell? ⟨w.heap.size + 1, 4, none⟩ = some (.int .i64 c1) := by rw [hwx]; go_simp
                  have p5 : wx.cell? ⟨w.heap.size + 1, 5, none⟩ = some (.int .i64 c2) := by rw [hwx]; go_simp
                  have p6 : wx.cell? ⟨w.heap.size + 1, 6, none⟩ = some (.int .i64 1) := by rw [hwx]; go_simp
                  have Hwx := Lib.hid hwx
                  clear hwx
                  replace x0 := cell_next x0 hb0
                  replace x1 := cell_next x1 hb0
                  replace y0 := cell_next y0 hb0
                  replace y1 := cell_next y1 hb0
                  replace u1 := cell_next u1 hb0
                  replace u2 := cell_next u2 hb0
                  replace v1 := cell_next v1 hb0
                  replace v2 := cell_next v2 hb0
                  go_enter Try.func107, Try.ntmps107
                  go_wp2_with fail
                  rw [← Hwx.out]
                  clear Hwx
                  refine (H1.out _ hb0).mono ?_
                  rintro e w1 ⟨rfl, hb1⟩
                  have hbb : Below w.heap.size w w1 := hb0.trans (hb1.mono hb0.size)
                  replace x0 := cell_next x0 hb1
                  replace x1 := cell_next x1 hb1
                  replace y0 := cell_next y0 hb1
                  replace y1 := cell_next y1 hb1
                  replace u1 := cell_next u1 hb1
                  replace u2 := cell_next u2 hb1
                  replace v1 := cell_next v1 hb1
                  replace v2 := cell_next v2 hb1
                  replace q0 := cell_next q0 hb1
                  replace q1 := cell_next q1 hb1
                  replace p0 := cell_next p0 hb1
                  replace p1 := cell_next p1 hb1
                  replace p2 := cell_next p2 hb1
                  replace p3 := cell_next p3 hb1
                  replace p4 := cell_next p4 hb1
                  replace p5 := cell_next p5 hb1
                  replace p6 := cell_next p6 hb1
                  clear hb0 hb1 H1
                  have L0 := World.block_lt_of_cell? w1 _ q1
                  have L1 := World.block_lt_of_cell? w1 _ p0
                  have L2 := World.block_lt_of_cell? w1 _ x0
                  have L3 := World.block_lt_of_cell? w1 _ x1
                  have L4 := World.block_lt_of_cell? w1 _ y0
                  have L5 := World.block_lt_of_cell? w1 _ y1
                  have L6 := World.block_lt_of_cell? w1 _ u1
                  have L7 := World.block_lt_of_cell? w1 _ u2
                  have L8 := World.block_lt_of_cell? w1 _ v1
                  have L9 := World.block_lt_of_cell? w1 _ v2
                  simp only at L0 L1 L2 L3 L4 L5 L6 L7 L8 L9
                  go_wp2_with fail
                  refine (HI.out _).mono ?_
                  rintro e w' ⟨rfl, rfl⟩
                  go_wp2_with fail
                  refine (HK.out _).mono ?_
                  rintro e w' ⟨rfl, rfl⟩
                  go_wp2_with fail
                  obtain ⟨wy, hwy⟩ : ∃ wy, wy = (w1.alloc (Obj.cells #[.int .i64 rx, .slice (some ⟨d, of1, none⟩) n cv] 157)).alloc (Obj.cells #[.int .i64 ry, .slice (some ⟨f, of2, none⟩) m cv'] 157) := ⟨_, rfl⟩
                  rw [← hwy]
                  have hb2 : Below w1.heap.size w1 wy := by rw [hwy]; go_grown
                  have Ga := grow_cell (w := wy) (p := ⟨w1.heap.size, 0, none⟩) (v := .int .i64 rx) (by rw [hwy]; go_simp)
                  have Gb := grow_cell (w := wy) (p := ⟨w1.heap.size, 1, none⟩) (v := .slice (some ⟨d, of1, none⟩) n cv) (by rw [hwy]; go_simp)
                  have Gc := grow_cell (w := wy) (p := ⟨w1.heap.size + 1, 0, none⟩) (v := .int .i64 ry) (by rw [hwy]; go_simp)
                  have Gd := grow_cell (w := wy) (p := ⟨w1.heap.size + 1, 1, none⟩) (v := .slice (some ⟨f, of2, none⟩) m cv') (by rw [hwy]; go_simp)
                  have Gx0 := grow_cell (cell_next x0 hb2)
                  have Gx1 := grow_cell (cell_next x1 hb2)
                  have Gy0 := grow_cell (cell_next y0 hb2)
                  have Gy1 := grow_cell (cell_next y1 hb2)
                  have Gu1 := grow_cell (cell_next u1 hb2)
                  have Gu2 := grow_cell (cell_next u2 hb2)
                  have Gv1 := grow_cell (cell_next v1 hb2)
                  have Gv2 := grow_cell (cell_next v2 hb2)
                  have Gp0 := grow_cell (cell_next p0 hb2)
                  have Gp1 := grow_cell (cell_next p1 hb2)
                  have Gp2 := grow_cell (cell_next p2 hb2)
                  have Gp3 := grow_cell (cell_next p3 hb2)
                  have Gp4 := grow_cell (cell_next p4 hb2)
                  have Gp5 := grow_cell (cell_next p5 hb2)
                  have Gp6 := grow_cell (cell_next p6 hb2)
                  have hbc : Below w.heap.size w wy := hbb.trans (hb2.mono hbb.size)
                  clear hwy hb2 x0 x1 y0 y1 u1 u2 v1 v2 p0 p1 p2 p3 p4 p5 p6 L0 L1 L2 L3 L4 L5 L6 L7 L8 L9
                  refine wp_region_grow (by kernel_rfl) (by kernel_rfl) ?_
                  repeat (go_big_quiet_step (fail))
                  refine wpQuiet_nil ?_
                  rintro _ ⟨nq, rfl⟩
                  have hbd : Below w.heap.size w nq.W := hbc.trans (nq.below.mono hbc.size)
                  have KGa := Ga nq
                  have KGb := Gb nq
                  have KGc := Gc nq
                  have KGd := Gd nq
                  have KGx0 := Gx0 nq
                  have KGx1 := Gx1 nq
                  have KGy0 := Gy0 nq
                  have KGy1 := Gy1 nq
                  have KGu1 := Gu1 nq
                  have KGu2 := Gu2 nq
                  have KGv1 := Gv1 nq
                  have KGv2 := Gv2 nq
                  have KGp0 := Gp0 nq
                  have KGp1 := Gp1 nq
                  have KGp2 := Gp2 nq
                  have KGp3 := Gp3 nq
                  have KGp4 := Gp4 nq
                  have KGp5 := Gp5 nq
                  have KGp6 := Gp6 nq
                  replace Ga := grow_cell KGa
                  replace Gb := grow_cell KGb
                  replace Gc := grow_cell KGc
                  replace Gd := grow_cell KGd
                  replace Gx0 := grow_cell KGx0
                  replace Gx1 := grow_cell KGx1
                  replace Gy0 := grow_cell KGy0
                  replace Gy1 := grow_cell KGy1
                  replace Gu1 := grow_cell KGu1
                  replace Gu2 := grow_cell KGu2
                  replace Gv1 := grow_cell KGv1
                  replace Gv2 := grow_cell KGv2
                  replace Gp0 := grow_cell KGp0
                  replace Gp1 := grow_cell KGp1
                  replace Gp2 := grow_cell KGp2
                  replace Gp3 := grow_cell KGp3
                  replace Gp4 := grow_cell KGp4
                  replace Gp5 := grow_cell KGp5
                  replace Gp6 := grow_cell KGp6
                  generalize nq.W = wz at *
                  go_wp2_with fail
                  refine wp_region_grow (by kernel_rfl) (by kernel_rfl) ?_
                  repeat (go_big_quiet_step (fail))
                  refine wpQuiet_nil ?_
                  rintro _ ⟨nr, rfl⟩
                  go_wp2
                  go_ret
                  exact ⟨by first | rfl | (simp; done) | (simp; rfl), hbd.trans (nr.below.mono hbd.size)⟩
                · subst hcm
                  clear Hcm
                  obtain ⟨wx, hwx⟩ : ∃ wx, wx = (w.alloc (Obj.cells #[.slice a0 n0 cap0, .slice (some ⟨b, off, none⟩) nf cap1] 34)).alloc (Obj.cells #[.int .i64 rx, .int .i64 ry, .int .i64 j1, .int .i64 j2, .int .i64 c1, .int .i64 c2, .int .i64 2] 92) := ⟨_, rfl⟩
                  have hb0 : Below w.heap.size w wx := by rw [hwx]; go_grown
                  have q0 : wx.cell? ⟨w.heap.size, 0, none⟩ = some (.slice a0 n0 cap0) := by rw [hwx]; go_simp
                  have q1 : wx.cell? ⟨w.heap.size, 1, none⟩ = some (.slice (some ⟨b, off, none⟩) nf cap1) := by rw [hwx]; go_simp
                  have p0 : wx.cell? ⟨w.heap.size + 1, 0, none⟩ = some (.int .i64 rx) := by rw [hwx]; go_simp
                  have p1 : wx.cell? ⟨w.heap.size + 1, 1, none⟩ = some (.int .i64 ry) := by rw [hwx]; go_simp
                  have p2 : wx.cell? ⟨w.heap.size + 1, 2, none⟩ = some (.int .i64 j1) := by rw [hwx]; go_simp
                  have p3 : wx.cell? ⟨w.heap.size + 1, 3, none⟩ = some (.int .i64 j2) := by rw [hwx]; go_simp
                  have p4 : wx.cell? ⟨w.heap.size + 1, 4, none⟩ = some (.int .i64 c1) := by rw [hwx]; go_simp
                  have p5 : wx.cell? ⟨w.heap.size + 1, 5, none⟩ = some (.int .i64 c2) := by rw [hwx]; go_simp
                  have p6 : wx.cell? ⟨w.heap.size + 1, 6, none⟩ = some (.int .i64 2) := by rw [hwx]; go_simp
                  have Hwx := Lib.hid hwx
                  clear hwx
                  replace x0 := cell_next x0 hb0
                  replace x1 := cell_next x1 hb0
                  replace y0 := cell_next y0 hb0
                  replace y1 := cell_next y1 hb0
                  replace u1 := cell_next u1 hb0
                  replace u2 := cell_next u2 hb0
                  replace v1 := cell_next v1 hb0
                  replace v2 := cell_next v2 hb0
                  go_enter Try.func107, Try.ntmps107
                  go_wp2_with fail
                  rw [← Hwx.out]
                  clear Hwx
                  refine (H1.out _ hb0).mono ?_
                  rintro e w1 ⟨rfl, hb1⟩
                  have hbb : Below w.heap.size w w1 := hb0.trans (hb1.mono hb0.size)
                  replace x0 := cell_next x0 hb1
                  replace x1 := cell_next x1 hb1
                  replace y0 := cell_next y0 hb1
                  replace y1 := cell_next y1 hb1
                  replace u1 := cell_next u1 hb1
                  replace u2 := cell_next u2 hb1
                  replace v1 := cell_next v1 hb1
                  replace v2 := cell_next v2 hb1
                  replace q0 := cell_next q0 hb1
                  replace q1 := cell_next q1 hb1
                  replace p0 := cell_next p0 hb1
                  replace p1 := cell_next p1 hb1
                  replace p2 := cell_next p2 hb1
                  replace p3 := cell_next p3 hb1
                  replace p4 := cell_next p4 hb1
                  replace p5 := cell_next p5 hb1
                  replace p6 := cell_next p6 hb1
                  clear hb0 hb1 H1
                  have L0 := World.block_lt_of_cell? w1 _ q1
                  have L1 := World.block_lt_of_cell? w1 _ p0
                  have L2 := World.block_lt_of_cell? w1 _ x0
                  have L3 := World.block_lt_of_cell? w1 _ x1
                  have L4 := World.block_lt_of_cell? w1 _ y0
                  have L5 := World.block_lt_of_cell? w1 _ y1
                  have L6 := World.block_lt_of_cell? w1 _ u1
                  have L7 := World.block_lt_of_cell? w1 _ u2
                  have L8 := World.block_lt_of_cell? w1 _ v1
                  have L9 := World.block_lt_of_cell? w1 _ v2
                  simp only at L0 L1 L2 L3 L4 L5 L6 L7 L8 L9
                  go_wp2_with fail
                  refine (HI.out _).mono ?_
                  rintro e w' ⟨rfl, rfl⟩
                  go_wp2_with fail
                  refine (HK.out _).mono ?_
                  rintro e w' ⟨rfl, rfl⟩
                  go_wp2_with fail
                  obtain ⟨wy, hwy⟩ : ∃ wy, wy = (w1.alloc (Obj.cells #[.int .i64 rx, .slice (some ⟨d, of1, none⟩) n cv] 157)).alloc (Obj.cells #[.int .i64 ry, .slice (some ⟨f, of2, none⟩) m cv'] 157) := ⟨_, rfl⟩
                  rw [← hwy]
                  have hb2 : Below w1.heap.size w1 wy := by rw [hwy]; go_grown
                  have Ga := grow_cell (w := wy) (p := ⟨w1.heap.size, 0, none⟩) (v := .int .i64 rx) (by rw [hwy]; go_simp)
                  have Gb := grow_cell (w := wy) (p := ⟨w1.heap.size, 1, none⟩) (v := .slice (some ⟨d, of1, none⟩) n cv) (by rw [hwy]; go_simp)
                  have Gc := grow_cell (w := wy) (p := ⟨w1.heap.size + 1, 0, none⟩) (v := .int .i64 ry) (by rw [hwy]; go_simp)
                  have Gd := grow_cell (w := wy) (p := ⟨w1.heap.size + 1, 1, none⟩) (v := .slice (some ⟨f, of2, none⟩) m cv') (by rw [hwy]; go_simp)
                  have Gx0 := grow_cell (cell_next x0 hb2)
                  have Gx1 := grow_cell (cell_next x1 hb2)
                  have Gy0 := grow_cell (cell_next y0 hb2)
                  have Gy1 := grow_cell (cell_next y1 hb2)
                  have Gu1 := grow_cell (cell_next u1 hb2)
                  have Gu2 := grow_cell (cell_next u2 hb2)
                  have Gv1 := grow_cell (cell_next v1 hb2)
                  have Gv2 := grow_cell (cell_next v2 hb2)
                  have Gp0 := grow_cell (cell_next p0 hb2)
                  have Gp1 := grow_cell (cell_next p1 hb2)
                  have Gp2 := grow_cell (cell_next p2 hb2)
                  have Gp3 := grow_cell (cell_next p3 hb2)
                  have Gp4 := grow_cell (cell_next p4 hb2)
                  have Gp5 := grow_cell (cell_next p5 hb2)
                  have Gp6 := grow_cell (cell_next p6 hb2)
                  have hbc : Below w.heap.size w wy := hbb.trans (hb2.mono hbb.size)
                  clear hwy hb2 x0 x1 y0 y1 u1 u2 v1 v2 p0 p1 p2 p3 p4 p5 p6 L0 L1 L2 L3 L4 L5 L6 L7 L8 L9
                  refine wp_region_grow (by kernel_rfl) (by kernel_rfl) ?_
                  repeat (go_big_quiet_step (fail))
                  refine wpQuiet_nil ?_
                  rintro _ ⟨nq, rfl⟩
                  have hbd : Below w.heap.size w nq.W := hbc.trans (nq.below.mono hbc.size)
                  have KGa := Ga nq
                  have KGb := Gb nq
                  have KGc := Gc nq
                  have KGd := Gd nq
                  have KGx0 := Gx0 nq
                  have KGx1 := Gx1 nq
                  have KGy0 := Gy0 nq
                  have KGy1 := Gy1 nq
                  have KGu1 := Gu1 nq
                  have KGu2 := Gu2 nq
                  have KGv1 := Gv1 nq
                  have KGv2 := Gv2 nq
                  have KGp0 := Gp0 nq
                  have KGp1 := Gp1 nq
                  have KGp2 := Gp2 nq
                  have KGp3 := Gp3 nq
                  have KGp4 := Gp4 nq
                  have KGp5 := Gp5 nq
                  have KGp6 := Gp6 nq
                  replace Ga := grow_cell KGa
                  replace Gb := grow_cell KGb
                  replace Gc := grow_cell KGc
                  replace Gd := grow_cell KGd
                  replace Gx0 := grow_cell KGx0
                  replace Gx1 := grow_cell KGx1
                  replace Gy0 := grow_cell KGy0
                  replace Gy1 := grow_cell KGy1
                  replace Gu1 := grow_cell KGu1
                  replace Gu2 := grow_cell KGu2
                  replace Gv1 := grow_cell KGv1
                  replace Gv2 := grow_cell KGv2
                  replace Gp0 := grow_cell KGp0
                  replace Gp1 := grow_cell KGp1
                  replace Gp2 := grow_cell KGp2
                  replace Gp3 := grow_cell KGp3
                  replace Gp4 := grow_cell KGp4
                  replace Gp5 := grow_cell KGp5
                  replace Gp6 := grow_cell KGp6
                  generalize nq.W = wz at *
                  go_wp2_with fail
                  refine wp_region_grow (by kernel_rfl) (by kernel_rfl) ?_
                  repeat (go_big_quiet_step (fail))
                  refine wpQuiet_nil ?_
                  rintro _ ⟨nr, rfl⟩
                  go_wp2
                  go_ret
                  exact ⟨by first | rfl | (simp; done) | (simp; rfl), hbd.trans (nr.below.mono hbd.size)⟩
              · have hpn : (p != p') = true := by simp [hpp]
                clear Hcm
                rw [decide_eq_false hpp, Bool.false_and]
                obtain ⟨wx, hwx⟩ : ∃ wx, wx = (w.alloc (Obj.cells #[.slice a0 n0 cap0, .slice (some ⟨b, off, none⟩) nf cap1] 34)).alloc (Obj.cells #[.int .i64 rx, .int .i64 ry, .int .i64 j1, .int .i64 j2, .int .i64 c1, .int .i64 c2, .int .i64 cm] 92) := ⟨_, rfl⟩
                have hb0 : Below w.heap.size w wx := by rw [hwx]; go_grown
                have q0 : wx.cell? ⟨w.heap.size, 0, none⟩ = some (.slice a0 n0 cap0) := by rw [hwx]; go_simp
                have q1 : wx.cell? ⟨w.heap.size, 1, none⟩ = some (.slice (some ⟨b, off, none⟩) nf cap1) := by rw [hwx]; go_simp
                have p0 : wx.cell? ⟨w.heap.size + 1, 0, none⟩ = some (.int .i64 rx) := by rw [hwx]; go_simp
                have p1 : wx.cell? ⟨w.heap.size + 1, 1, none⟩ = some (.int .i64 ry) := by rw [hwx]; go_simp
                have p2 : wx.cell? ⟨w.heap.size + 1, 2, none⟩ = some (.int .i64 j1) := by rw [hwx]; go_simp
                have p3 : wx.cell? ⟨w.heap.size + 1, 3, none⟩ = some (.int .i64 j2) := by rw [hwx]; go_simp
                have p4 : wx.cell? ⟨w.heap.size + 1, 4, none⟩ = some (.int .i64 c1) := by rw [hwx]; go_simp
                have p5 : wx.cell? ⟨w.heap.size + 1, 5, none⟩ = some (.int .i64 c2) := by rw [hwx]; go_simp
                have p6 : wx.cell? ⟨w.heap.size + 1, 6, none⟩ = some (.int .i64 cm) := by rw [hwx]; go_simp
                have Hwx := Lib.hid hwx
                clear hwx
                replace x0 := cell_next x0 hb0
                replace x1 := cell_next x1 hb0
                replace y0 := cell_next y0 hb0
                replace y1 := cell_next y1 hb0
                replace u1 := cell_next u1 hb0
                replace u2 := cell_next u2 hb0
                replace v1 := cell_next v1 hb0
                replace v2 := cell_next v2 hb0
                go_enter Try.func107, Try.ntmps107
                go_wp2_with fail
                rw [← Hwx.out]
                clear Hwx
                refine (H1.out _ hb0).mono ?_
                rintro e w1 ⟨rfl, hb1⟩
                have hbb : Below w.heap.size w w1 := hb0.trans (hb1.mono hb0.size)
                replace x0 := cell_next x0 hb1
                replace x1 := cell_next x1 hb1
                replace y0 := cell_next y0 hb1
                replace y1 := cell_next y1 hb1
                replace u1 := cell_next u1 hb1
                replace u2 := cell_next u2 hb1
                replace v1 := cell_next v1 hb1
                replace v2 := cell_next v2 hb1
                replace q0 := cell_next q0 hb1
                replace q1 := cell_next q1 hb1
                replace p0 := cell_next p0 hb1
                replace p1 := cell_next p1 hb1
                replace p2 := cell_next p2 hb1
                replace p3 := cell_next p3 hb1
                replace p4 := cell_next p4 hb1
                replace p5 := cell_next p5 hb1
                replace p6 := cell_next p6 hb1
                clear hb0 hb1 H1
                have L0 := World.block_lt_of_cell? w1 _ q1
                have L1 := World.block_lt_of_cell? w1 _ p0
                have L2 := World.block_lt_of_cell? w1 _ x0
                have L3 := World.block_lt_of_cell? w1 _ x1
                have L4 := World.block_lt_of_cell? w1 _ y0
                have L5 := World.block_lt_of_cell? w1 _ y1
                have L6 := World.block_lt_of_cell? w1 _ u1
                have L7 := World.block_lt_of_cell? w1 _ u2
                have L8 := World.block_lt_of_cell? w1 _ v1
                have L9 := World.block_lt_of_cell? w1 _ v2
                simp only at L0 L1 L2 L3 L4 L5 L6 L7 L8 L9
                go_wp2_with fail
                refine (HI.out _).mono ?_
                rintro e w' ⟨rfl, rfl⟩
                go_wp2_with fail
                refine (HK.out _).mono ?_
                rintro e w' ⟨rfl, rfl⟩
                go_wp2_with fail
                obtain ⟨wy, hwy⟩ : ∃ wy, wy = (w1.alloc (Obj.cells #[.int .i64 rx, .slice (some ⟨d, of1, none⟩) n cv] 157)).alloc (Obj.cells #[.int .i64 ry, .slice (some ⟨f, of2, none⟩) m cv'] 157) := ⟨_, rfl⟩
                rw [← hwy]
                have hb2 : Below w1.heap.size w1 wy := by rw [hwy]; go_grown
                have Ga := grow_cell (w := wy) (p := ⟨w1.heap.size, 0, none⟩) (v := .int .i64 rx) (by rw [hwy]; go_simp)
                have Gb := grow_cell (w := wy) (p := ⟨w1.heap.size, 1, none⟩) (v := .slice (some ⟨d, of1, none⟩) n cv) (by rw [hwy]; go_simp)
                have Gc := grow_cell (w := wy) (p := ⟨w1.heap.size + 1, 0, none⟩) (v := .int .i64 ry) (by rw [hwy]; go_simp)
                have Gd := grow_cell (w := wy) (p := ⟨w1.heap.size + 1, 1, none⟩) (v := .slice (some ⟨f, of2, none⟩) m cv') (by rw [hwy]; go_simp)
                have Gx0 := grow_cell (cell_next x0 hb2)
                have Gx1 := grow_cell (cell_next x1 hb2)
                have Gy0 := grow_cell (cell_next y0 hb2)
                have Gy1 := grow_cell (cell_next y1 hb2)
                have Gu1 := grow_cell (cell_next u1 hb2)
                have Gu2 := grow_cell (cell_next u2 hb2)
                have Gv1 := grow_cell (cell_next v1 hb2)
                have Gv2 := grow_cell (cell_next v2 hb2)
                have Gp0 := grow_cell (cell_next p0 hb2)
                have Gp1 := grow_cell (cell_next p1 hb2)
                have Gp2 := grow_cell (cell_next p2 hb2)
                have Gp3 := grow_cell (cell_next p3 hb2)
                have Gp4 := grow_cell (cell_next p4 hb2)
                have Gp5 := grow_cell (cell_next p5 hb2)
                have Gp6 := grow_cell (cell_next p6 hb2)
                have hbc : Below w.heap.size w wy := hbb.trans (hb2.mono hbb.size)
                clear hwy hb2 x0 x1 y0 y1 u1 u2 v1 v2 p0 p1 p2 p3 p4 p5 p6 L0 L1 L2 L3 L4 L5 L6 L7 L8 L9
                refine wp_region_grow (by kernel_rfl) (by kernel_rfl) ?_
                repeat (go_big_quiet_step (fail))
                refine wpQuiet_nil ?_
                rintro _ ⟨nq, rfl⟩
                go_wp2
                go_ret
                exact ⟨by first | rfl | simp, hbc.trans (nq.below.mono hbc.size)⟩
            · subst hrx
              have hpn : (ry != r2) = true := by simp [hry]
              rw [decide_eq_true rfl, decide_eq_false hry, Bool.true_and, Bool.false_and]
              clear Hcm Hci Hck hry
              clear HX HY
              generalize vx.length = n at *
              generalize vy.length = m at *
              obtain ⟨wx, hwx⟩ : ∃ wx, wx = (w.alloc (Obj.cells #[.slice a0 n0 cap0, .slice (some ⟨b, off, none⟩) nf cap1] 34)).alloc (Obj.cells #[.int .i64 rx, .int .i64 r2, .int .i64 j1, .int .i64 j2, .int .i64 c1, .int .i64 c2, .int .i64 cm] 92) := ⟨_, rfl⟩
              have hb0 : Below w.heap.size w wx := by rw [hwx]; go_grown
              have q0 : wx.cell? ⟨w.heap.size, 0, none⟩ = some (.slice a0 n0 cap0) := by rw [hwx]; go_simp
              have q1 : wx.cell? ⟨w.heap.size, 1, none⟩ = some (.slice (some ⟨b, off, none⟩) nf cap1) := by rw [hwx]; go_simp
              have p0 : wx.cell? ⟨w.heap.size + 1, 0, none⟩ = some (.int .i64 rx) := by rw [hwx]; go_simp
              have p1 : wx.cell? ⟨w.heap.size + 1, 1, none⟩ = some (.int .i64 r2) := by rw [hwx]; go_simp
              have p2 : wx.cell? ⟨w.heap.size + 1, 2, none⟩ = some (.int .i64 j1) := by rw [hwx]; go_simp
              have p3 : wx.cell? ⟨w.heap.size + 1, 3, none⟩ = some (.int .i64 j2) := by rw [hwx]; go_simp
              have p4 : wx.cell? ⟨w.heap.size + 1, 4, none⟩ = some (.int .i64 c1) := by rw [hwx]; go_simp
              have p5 : wx.cell? ⟨w.heap.size + 1, 5, none⟩ = some (.int .i64 c2) := by rw [hwx]; go_simp
              have p6 : wx.cell? ⟨w.heap.size + 1, 6, none⟩ = some (.int .i64 cm) := by rw [hwx]; go_simp
              have Hwx := Lib.hid hwx
              clear hwx
              replace x0 := cell_next x0 hb0
              replace x1 := cell_next x1 hb0
              replace y0 := cell_next y0 hb0
              replace y1 := cell_next y1 hb0
              go_enter Try.func107, Try.ntmps107
              go_wp2_with fail
              rw [← Hwx.out]
              clear Hwx
              refine (H1.out _ hb0).mono ?_
              rintro e w1 ⟨rfl, hb1⟩
              have hbb : Below w.heap.size w w1 := hb0.trans (hb1.mono hb0.size)
              replace x0 := cell_next x0 hb1
              replace x1 := cell_next x1 hb1
              replace y0 := cell_next y0 hb1
              replace y1 := cell_next y1 hb1
              replace q0 := cell_next q0 hb1
              replace q1 := cell_next q1 hb1
              replace p0 := cell_next p0 hb1
              replace p1 := cell_next p1 hb1
              replace p2 := cell_next p2 hb1
              replace p3 := cell_next p3 hb1
              replace p4 := cell_next p4 hb1
              replace p5 := cell_next p5 hb1
              replace p6 := cell_next p6 hb1
              clear hb0 hb1 H1
              have L0 := World.block_lt_of_cell? w1 _ q1
              have L1 := World.block_lt_of_cell? w1 _ p0
              have L2 := World.block_lt_of_cell? w1 _ x0
              have L3 := World.block_lt_of_cell? w1 _ x1
              have L4 := World.block_lt_of_cell? w1 _ y0
              have L5 := World.block_lt_of_cell? w1 _ y1
              simp only at L0 L1 L2 L3 L4 L5
              go_wp2_with fail
              refine (HI.out _).mono ?_
              rintro e w' ⟨rfl, rfl⟩
              go_wp2_with fail
              refine (HK.out _).mono ?_
              rintro e w' ⟨rfl, rfl⟩
              go_wp2_with fail
              obtain ⟨wy, hwy⟩ : ∃ wy, wy = (w1.alloc (Obj.cells #[.int .i64 rx, .slice av n cv] 157)).alloc (Obj.cells #[.int .i64 ry, .slice av' m cv'] 157) := ⟨_, rfl⟩
              rw [← hwy]
              have hb2 : Below w1.heap.size w1 wy := by rw [hwy]; go_grown
              have Ga := grow_cell (w := wy) (p := ⟨w1.heap.size, 0, none⟩) (v := .int .i64 rx) (by rw [hwy]; go_simp)
              have Gb := grow_cell (w := wy) (p := ⟨w1.heap.size, 1, none⟩) (v := .slice av n cv) (by rw [hwy]; go_simp)
              have Gc := grow_cell (w := wy) (p := ⟨w1.heap.size + 1, 0, none⟩) (v := .int .i64 ry) (by rw [hwy]; go_simp)
              have Gd := grow_cell (w := wy) (p := ⟨w1.heap.size + 1, 1, none⟩) (v := .slice av' m cv') (by rw [hwy]; go_simp)
              have Gx0 := grow_cell (cell_next x0 hb2)
              have Gx1 := grow_cell (cell_next x1 hb2)
              have Gy0 := grow_cell (cell_next y0 hb2)
              have Gy1 := grow_cell (cell_next y1 hb2)
              have Gp0 := grow_cell (cell_next p0 hb2)
              have Gp1 := grow_cell (cell_next p1 hb2)
              have Gp2 := grow_cell (cell_next p2 hb2)
              have Gp3 := grow_cell (cell_next p3 hb2)
              have Gp4 := grow_cell (cell_next p4 hb2)
              have Gp5 := grow_cell (cell_next p5 hb2)
              have Gp6 := grow_cell (cell_next p6 hb2)
              have hbc : Below w.heap.size w wy := hbb.trans (hb2.mono hbb.size)
              clear hwy hb2 x0 x1 y0 y1 p0 p1 p2 p3 p4 p5 p6 L0 L1 L2 L3 L4 L5
              refine wp_region_grow (by kernel_rfl) (by kernel_rfl) ?_
              repeat (go_big_quiet_step (fail))
              refine wpQuiet_nil ?_
              rintro _ ⟨nq, rfl⟩
              go_wp2
              go_ret
              exact ⟨by first | rfl | simp, hbc.trans (nq.below.mono hbc.size)⟩
          · have hpn : (rx != r1) = true := by simp [hrx]
            rw [decide_eq_false hrx, Bool.false_and]
            clear Hcm Hci Hck hrx HX HY
            generalize vx.length = n at *
            generalize vy.length = m at *
            obtain ⟨wx, hwx⟩ : ∃ wx, wx = (w.alloc (Obj.cells #[.slice a0 n0 cap0, .slice (some ⟨b, off, none⟩) nf cap1] 34)).alloc (Obj.cells #[.int .i64 r1, .int .i64 r2, .int .i64 j1, .int .i64 j2, .int .i64 c1, .int .i64 c2, .int .i64 cm] 92) := ⟨_, rfl⟩
            have hb0 : Below w.heap.size w wx := by rw [hwx]; go_grown
            have q0 : wx.cell? ⟨w.heap.size, 0, none⟩ = some (.slice a0 n0 cap0) := by rw [hwx]; go_simp
            have q1 : wx.cell? ⟨w.heap.size, 1, none⟩ = some (.slice (some ⟨b, off, none⟩) nf cap1) := by rw [hwx]; go_simp
            have p0 : wx.cell? ⟨w.heap.size + 1, 0, none⟩ = some (.int .i64 r1) := by rw [hwx]; go_simp
            have p1 : wx.cell? ⟨w.heap.size + 1, 1, none⟩ = some (.int .i64 r2) := by rw [hwx]; go_simp
            have p2 : wx.cell? ⟨w.heap.size + 1, 2, none⟩ = some (.int .i64 j1) := by rw [hwx]; go_simp
            have p3 : wx.cell? ⟨w.heap.size + 1, 3, none⟩ = some (.int .i64 j2) := by rw [hwx]; go_simp
            have p4 : wx.cell? ⟨w.heap.size + 1, 4, none⟩ = some (.int .i64 c1) := by rw [hwx]; go_simp
            have p5 : wx.cell? ⟨w.heap.size + 1, 5, none⟩ = some (.int .i64 c2) := by rw [hwx]; go_simp
            have p6 : wx.cell? ⟨w.heap.size + 1, 6, none⟩ = some (.int .i64 cm) := by rw [hwx]; go_simp
            have Hwx := Lib.hid hwx
            clear hwx
            replace x0 := cell_next x0 hb0
            replace x1 := cell_next x1 hb0
            replace y0 := cell_next y0 hb0
            replace y1 := cell_next y1 hb0
            go_enter Try.func107, Try.ntmps107
            go_wp2_with fail
            rw [← Hwx.out]
            clear Hwx
            refine (H1.out _ hb0).mono ?_
            rintro e w1 ⟨rfl, hb1⟩
            have hbb : Below w.heap.size w w1 := hb0.trans (hb1.mono hb0.size)
            replace x0 := cell_next x0 hb1
            replace x1 := cell_next x1 hb1
            replace y0 := cell_next y0 hb1
            replace y1 := cell_next y1 hb1
            replace q0 := cell_next q0 hb1
            replace q1 := cell_next q1 hb1
            replace p0 := cell_next p0 hb1
            replace p1 := cell_next p1 hb1
            replace p2 := cell_next p2 hb1
            replace p3 := cell_next p3 hb1
            replace p4 := cell_next p4 hb1
            replace p5 := cell_next p5 hb1
            replace p6 := cell_next p6 hb1
            clear hb0 hb1 H1
            have L0 := World.block_lt_of_cell? w1 _ q1
            have L1 := World.block_lt_of_cell? w1 _ p0
            have L2 := World.block_lt_of_cell? w1 _ x0
            have L3 := World.block_lt_of_cell? w1 _ x1
            have L4 := World.block_lt_of_cell? w1 _ y0
            have L5 := World.block_lt_of_cell? w1 _ y1
            simp only at L0 L1 L2 L3 L4 L5
            go_wp2_with fail
            refine (HI.out _).mono ?_
            rintro e w' ⟨rfl, rfl⟩
            go_wp2_with fail
            refine (HK.out _).mono ?_
            rintro e w' ⟨rfl, rfl⟩
            go_wp2_with fail
            obtain ⟨wy, hwy⟩ : ∃ wy, wy = (w1.alloc (Obj.cells #[.int .i64 rx, .slice av n cv] 157)).alloc (Obj.cells #[.int .i64 ry, .slice av' m cv'] 157) := ⟨_, rfl⟩
            rw [← hwy]
            have hb2 : Below w1.heap.size w1 wy := by rw [hwy]; go_grown
            have Ga := grow_cell (w := wy) (p := ⟨w1.heap.size, 0, none⟩) (v := .int .i64 rx) (by rw [hwy]; go_simp)
            have Gb := grow_cell (w := wy) (p := ⟨w1.heap.size, 1, none⟩) (v := .slice av n cv) (by rw [hwy]; go_simp)
            have Gc := grow_cell (w := wy) (p := ⟨w1.heap.size + 1, 0, none⟩) (v := .int .i64 ry) (by rw [hwy]; go_simp)
            have Gd := grow_cell (w := wy) (p := ⟨w1.heap.size + 1, 1, none⟩) (v := .slice av' m cv') (by rw [hwy]; go_simp)
            have Gx0 := grow_cell (cell_next x0 hb2)
            have Gx1 := grow_cell (cell_next x1 hb2)
            have Gy0 := grow_cell (cell_next y0 hb2)
            have Gy1 := grow_cell (cell_next y1 hb2)
            have Gp0 := grow_cell (cell_next p0 hb2)
            have Gp1 := grow_cell (cell_next p1 hb2)
            have Gp2 := grow_cell (cell_next p2 hb2)
            have Gp3 := grow_cell (cell_next p3 hb2)
            have Gp4 := grow_cell (cell_next p4 hb2)
            have Gp5 := grow_cell (cell_next p5 hb2)
            have Gp6 := grow_cell (cell_next p6 hb2)
            have hbc : Below w.heap.size w wy := hbb.trans (hb2.mono hbb.size)
            clear hwy hb2 x0 x1 y0 y1 p0 p1 p2 p3 p4 p5 p6 L0 L1 L2 L3 L4 L5
            refine wp_region_grow (by kernel_rfl) (by kernel_rfl) ?_
            repeat (go_big_quiet_step (fail))
            refine wpQuiet_nil ?_
            rintro _ ⟨nq, rfl⟩
            go_wp2
            go_ret
            exact ⟨by first | rfl | simp, hbc.trans (nq.below.mono hbc.size)⟩
end Go.Proofs.Ytpfljebndnfpmaa

