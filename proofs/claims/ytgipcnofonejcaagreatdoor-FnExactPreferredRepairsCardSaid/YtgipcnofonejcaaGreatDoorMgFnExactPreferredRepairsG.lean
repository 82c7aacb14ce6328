/- Texts behind FnExactPreferredRepairs, put together. -/
import Derived.Test.YtgipcnofonejcaaGreatDoorMgFnExactPreferredRepairsF
set_option linter.unusedSimpArgs false
set_option linter.unusedVariables false
set_option linter.unusedSectionVars false
set_option linter.constructorNameAsVariable false
set_option maxRecDepth 100000
open Nat (reduceLT reduceAdd reduceMul reduceLeDiff reduceSub reduceEqDiff)
namespace Go.Proofs.YtgipcnofonejcaaGreatDoor
section
/- Chapter 9: ViolatesConstraint, the model's. -/
open Go.RowKit
set_option maxHeartbeats 6400000 in
theorem specViolatesConstraint_c {a0 a1 : Option Addr} {cap0 cap1 : Nat} {x : Dbs} {c : Dcn} {w : World} {i k : Int} (h : At cDbs w x [.slice a0 x.rels.length cap0, .slice a1 x.facts.length cap1]) (hc : At cDcn w c [.int .i64 c.r1, .int .i64 c.r2, .int .i64 c.j1, .int .i64 c.j2, .int .i64 c.c1, .int .i64 c.c2, .int .i64 c.cmp]) :
   Calls Tryz.prog 64 #[.agg #[.slice a0 x.rels.length cap0, .slice a1 x.facts.length cap1], .agg #[.int .i64 c.r1, .int .i64 c.r2, .int .i64 c.j1, .int .i64 c.j2, .int .i64 c.c1, .int .i64 c.c2, .int .i64 c.cmp], .int .i64 i, .int .i64 k] w fun e w' => e = .returned (.bool (violates x c i k)) ∧ Below w.heap.size w w' := by
 have hx1 := (cDbs_inv h).2
 have hm := (slice_len hx1).2
 unfold maxLen at hm
 have HF : Hid (∀ w' : World, Below w.heap.size w w' → ∀ j (hj : j < x.facts.length), _) := fun w' hb j hj => at_Fact (Cod.ok_below hx1 hb) j hj
 have H1 : Hid (∀ ww, Below w.heap.size w ww → Calls Tryz.prog 96 #[.agg #[.slice a0 x.rels.length cap0, .slice a1 x.facts.length cap1], .agg #[.int .i64 c.r1, .int .i64 c.r2, .int .i64 c.j1, .int .i64 c.j2, .int .i64 c.c1, .int .i64 c.c2, .int .i64 c.cmp]] ww fun e w' => e = .returned (.bool (validCon x c)) ∧ Below ww.heap.size ww w') :=
   fun ww hb => specIsValidConstraint_c (At.below h hb (Nat.le_refl _)) (At.below hc hb (Nat.le_refl _))
 have HC : Hid (validCon x c = true → ∀ j (hj : j < x.facts.length), (x.facts[j].rel = c.r1 → hasCols x.facts[j] c.j1 c.c1) ∧ (x.facts[j].rel = c.r2 → hasCols x.facts[j] c.j2 c.c2)) := fun hv j hj => con_cols hv j hj
 have HM : Hid (validCon x c = true → c.cmp = 1 ∨ c.cmp = 2) := fun hv => con_cmp hv
 clear h hc hx1
 unfold violates
 obtain ⟨xr, l⟩ := x
 simp only at *
 obtain ⟨nf, hn⟩ : ∃ n : Nat, l.length = n := ⟨_, rfl⟩
 have Hn := Lib.hid hn
 rw [hn] at hm H1 ⊢
 clear hn
 generalize xr.length = n0 at *
 generalize hVV : validCon ⟨xr, l⟩ c = V at *
 clear hVV
 have hwn : wrap64 ((nf : Int) - 1) = (nf : Int) - 1 := IntWalk.wrap64_in _ ⟨by omega, by omega⟩
 have hI : inB i 0 ((nf : Int) - 1) = true → 0 ≤ i ∧ i ≤ (nf : Int) - 1 := by unfold inB; simp
 have hK : inB k 0 ((nf : Int) - 1) = true → 0 ≤ k ∧ k ≤ (nf : Int) - 1 := by unfold inB; simp
 have HI : Hid (∀ ww, Calls Tryz.prog 87 #[.int .i64 i, .int .i64 0, .int .i64 ((nf : Int) - 1)] ww fun e w' => e = .returned (.bool (inB i 0 ((nf : Int) - 1))) ∧ ww = w') := fun ww => l1In_any _ _ _ _
 have HK : Hid (∀ ww, Calls Tryz.prog 87 #[.int .i64 k, .int .i64 0, .int .i64 ((nf : Int) - 1)] ww fun e w' => e = .returned (.bool (inB k 0 ((nf : Int) - 1))) ∧ ww = w') := fun ww => l1In_any _ _ _ _
 generalize hII : inB i 0 ((nf : Int) - 1) = I at *
 generalize hKK : inB k 0 ((nf : Int) - 1) = K at *
 clear hII hKK
 cases V with
 | false =>
   clear HF HC HM hI hK
   rw [Bool.false_and]
   obtain ⟨r1, r2, j1, j2, c1, c2, cm⟩ := c
   simp only at *
   obtain ⟨wx, hwx⟩ : ∃ wx, wx = (w.alloc (Obj.cells #[.slice a0 n0 cap0, .slice a1 nf cap1] 34)).alloc (Obj.cells #[.int .i64 r1, .int .i64 r2, .int .i64 j1, .int .i64 j2, .int .i64 c1, .int .i64 c2, .int .i64 cm] 59) := ⟨_, rfl⟩
   have hb0 : Below w.heap.size w wx := by rw [hwx]; go_grown
   have q0 : wx.cell? ⟨w.heap.size, 0, none⟩ = some (.slice a0 n0 cap0) := by rw [hwx]; go_simp
   have q1 : wx.cell? ⟨w.heap.size, 1, none⟩ = some (.slice a1 nf cap1) := by rw [hwx]; go_simp
   have p0 : wx.cell? ⟨w.heap.size + 1, 0, none⟩ = some (.int .i64 r1) := by rw [hwx]; go_simp
   have p1 : wx.cell? ⟨w.heap.size + 1, 1, none⟩ = some (.int .i64 r2) := by rw [hwx]; go_simp
   have p2 : wx.cell? ⟨w.heap.size + 1, 2, none⟩ = some (.int .i64 j1) := by rw [hwx]; go_simp
   have p3 : wx.cell? ⟨w.heap.size + 1, 3, none⟩ = some (.int .i64 j2) := by rw [hwx]; go_simp
   have p4 : wx.cell? ⟨w.heap.size + 1, 4, none⟩ = some (.int .i64 c1) := by rw [hwx]; go_simp
   have p5 : wx.cell? ⟨w.heap.size + 1, 5, none⟩ = some (.int .i64 c2) := by rw [hwx]; go_simp
   have p6 : wx.cell? ⟨w.heap.size + 1, 6, none⟩ = some (.int .i64 cm) := by rw [hwx]; go_simp
   have Hwx := Lib.hid hwx
   clear hwx
   go_enter Tryz.func64, Tryz.ntmps64
   go_wp2_with fail
   rw [← Hwx.out]
   clear Hwx
   refine (H1.out _ hb0).mono ?_
   rintro e w1 ⟨rfl, hb1⟩
   have hbb : Below w.heap.size w w1 := hb0.trans (hb1.mono hb0.size)
   go_wp2
   go_ret
   exact ⟨by first | rfl | simp, hbb⟩
 | true =>
   rw [Bool.true_and]
   cases I with
   | false =>
     clear HF HC HM hI hK
     rw [Bool.false_and]
     obtain ⟨r1, r2, j1, j2, c1, c2, cm⟩ := c
     simp only at *
     obtain ⟨wx, hwx⟩ : ∃ wx, wx = (w.alloc (Obj.cells #[.slice a0 n0 cap0, .slice a1 nf cap1] 34)).alloc (Obj.cells #[.int .i64 r1, .int .i64 r2, .int .i64 j1, .int .i64 j2, .int .i64 c1, .int .i64 c2, .int .i64 cm] 59) := ⟨_, rfl⟩
     have hb0 : Below w.heap.size w wx := by rw [hwx]; go_grown
     have q0 : wx.cell? ⟨w.heap.size, 0, none⟩ = some (.slice a0 n0 cap0) := by rw [hwx]; go_simp
     have q1 : wx.cell? ⟨w.heap.size, 1, none⟩ = some (.slice a1 nf cap1) := by rw [hwx]; go_simp
     have p0 : wx.cell? ⟨w.heap.size + 1, 0, none⟩ = some (.int .i64 r1) := by rw [hwx]; go_simp
     have p1 : wx.cell? ⟨w.heap.size + 1, 1, none⟩ = some (.int .i64 r2) := by rw [hwx]; go_simp
     have p2 : wx.cell? ⟨w.heap.size + 1, 2, none⟩ = some (.int .i64 j1) := by rw [hwx]; go_simp
     have p3 : wx.cell? ⟨w.heap.size + 1, 3, none⟩ = some (.int .i64 j2) := by rw [hwx]; go_simp
     have p4 : wx.cell? ⟨w.heap.size + 1, 4, none⟩ = some (.int .i64 c1) := by rw [hwx]; go_simp
     have p5 : wx.cell? ⟨w.heap.size + 1, 5, none⟩ = some (.int .i64 c2) := by rw [hwx]; go_simp
     have p6 : wx.cell? ⟨w.heap.size + 1, 6, none⟩ = some (.int .i64 cm) := by rw [hwx]; go_simp
     have Hwx := Lib.hid hwx
     clear hwx
     go_enter Tryz.func64, Tryz.ntmps64
     go_wp2_with fail
     rw [← Hwx.out]
     clear Hwx
     refine (H1.out _ hb0).mono ?_
     rintro e w1 ⟨rfl, hb1⟩
     have hbb : Below w.heap.size w w1 := hb0.trans (hb1.mono hb0.size)
     replace q0 := cell_next q0 hb1
     replace q1 := cell_next q1 hb1
     replace p0 := cell_next p0 hb1
     replace p1 := cell_next p1 hb1
     replace p2 := cell_next p2 hb1
     replace p3 := cell_next p3 hb1
     replace p4 := cell_next p4 hb1
     replace p5 := cell_next p5 hb1
     replace p6 := cell_next p6 hb1
     clear hb0 hb1 H1
     go_wp2_with fail
     refine (HI.out _).mono ?_
     rintro e w' ⟨rfl, rfl⟩
     go_wp2
     go_ret
     exact ⟨by first | rfl | simp, hbb⟩
   | true =>
     rw [Bool.true_and]
     cases K with
     | false =>
       clear HF HC HM hI hK
       rw [Bool.false_and]
       obtain ⟨r1, r2, j1, j2, c1, c2, cm⟩ := c
       simp only at *
       obtain ⟨wx, hwx⟩ : ∃ wx, wx = (w.alloc (Obj.cells #[.slice a0 n0 cap0, .slice a1 nf cap1] 34)).alloc (Obj.cells #[.int .i64 r1, .int .i64 r2, .int .i64 j1, .int .i64 j2, .int .i64 c1, .int .i64 c2, .int .i64 cm] 59) := ⟨_, rfl⟩
       have hb0 : Below w.heap.size w wx := by rw [hwx]; go_grown
       have q0 : wx.cell? ⟨w.heap.size, 0, none⟩ = some (.slice a0 n0 cap0) := by rw [hwx]; go_simp
       have q1 : wx.cell? ⟨w.heap.size, 1, none⟩ = some (.slice a1 nf cap1) := by rw [hwx]; go_simp
       have p0 : wx.cell? ⟨w.heap.size + 1, 0, none⟩ = some (.int .i64 r1) := by rw [hwx]; go_simp
       have p1 : wx.cell? ⟨w.heap.size + 1, 1, none⟩ = some (.int .i64 r2) := by rw [hwx]; go_simp
       have p2 : wx.cell? ⟨w.heap.size + 1, 2, none⟩ = some (.int .i64 j1) := by rw [hwx]; go_simp
       have p3 : wx.cell? ⟨w.heap.size + 1, 3, none⟩ = some (.int .i64 j2) := by rw [hwx]; go_simp
       have p4 : wx.cell? ⟨w.heap.size + 1, 4, none⟩ = some (.int .i64 c1) := by rw [hwx]; go_simp
       have p5 : wx.cell? ⟨w.heap.size + 1, 5, none⟩ = some (.int .i64 c2) := by rw [hwx]; go_simp
       have p6 : wx.cell? ⟨w.heap.size + 1, 6, none⟩ = some (.int .i64 cm) := by rw [hwx]; go_simp
       have Hwx := Lib.hid hwx
       clear hwx
       go_enter Tryz.func64, Tryz.ntmps64
       go_wp2_with fail
       rw [← Hwx.out]
       clear Hwx
       refine (H1.out _ hb0).mono ?_
       rintro e w1 ⟨rfl, hb1⟩
       have hbb : Below w.heap.size w w1 := hb0.trans (hb1.mono hb0.size)
       replace q0 := cell_next q0 hb1
       replace q1 := cell_next q1 hb1
       replace p0 := cell_next p0 hb1
       replace p1 := cell_next p1 hb1
       replace p2 := cell_next p2 hb1
       replace p3 := cell_next p3 hb1
       replace p4 := cell_next p4 hb1
       replace p5 := cell_next p5 hb1
       replace p6 := cell_next p6 hb1
       clear hb0 hb1 H1
       go_wp2_with fail
       refine (HI.out _).mono ?_
       rintro e w' ⟨rfl, rfl⟩
       go_wp2_with fail
       refine (HK.out _).mono ?_
       rintro e w' ⟨rfl, rfl⟩
       go_wp2
       go_ret
       exact ⟨by first | rfl | simp, hbb⟩
     | true =>
       rw [Bool.true_and]
       by_cases hik : i = k
       · rw [decide_eq_true hik]
         have hne : (i == k) = true := by simp [hik]
         clear HF HC HM hI hK hik
         obtain ⟨r1, r2, j1, j2, c1, c2, cm⟩ := c
         simp only at *
         obtain ⟨wx, hwx⟩ : ∃ wx, wx = (w.alloc (Obj.cells #[.slice a0 n0 cap0, .slice a1 nf cap1] 34)).alloc (Obj.cells #[.int .i64 r1, .int .i64 r2, .int .i64 j1, .int .i64 j2, .int .i64 c1, .int .i64 c2, .int .i64 cm] 59) := ⟨_, rfl⟩
         have hb0 : Below w.heap.size w wx := by rw [hwx]; go_grown
         have q0 : wx.cell? ⟨w.heap.size, 0, none⟩ = some (.slice a0 n0 cap0) := by rw [hwx]; go_simp
         have q1 : wx.cell? ⟨w.heap.size, 1, none⟩ = some (.slice a1 nf cap1) := by rw [hwx]; go_simp
         have p0 : wx.cell? ⟨w.heap.size + 1, 0, none⟩ = some (.int .i64 r1) := by rw [hwx]; go_simp
         have p1 : wx.cell? ⟨w.heap.size + 1, 1, none⟩ = some (.int .i64 r2) := by rw [hwx]; go_simp
         have p2 : wx.cell? ⟨w.heap.size + 1, 2, none⟩ = some (.int .i64 j1) := by rw [hwx]; go_simp
         have p3 : wx.cell? ⟨w.heap.size + 1, 3, none⟩ = some (.int .i64 j2) := by rw [hwx]; go_simp
         have p4 : wx.cell? ⟨w.heap.size + 1, 4, none⟩ = some (.int .i64 c1) := by rw [hwx]; go_simp
         have p5 : wx.cell? ⟨w.heap.size + 1, 5, none⟩ = some (.int .i64 c2) := by rw [hwx]; go_simp
         have p6 : wx.cell? ⟨w.heap.size + 1, 6, none⟩ = some (.int .i64 cm) := by rw [hwx]; go_simp
         have Hwx := Lib.hid hwx
         clear hwx
         go_enter Tryz.func64, Tryz.ntmps64
         go_wp2_with fail
         rw [← Hwx.out]
         clear Hwx
         refine (H1.out _ hb0).mono ?_
         rintro e w1 ⟨rfl, hb1⟩
         have hbb : Below w.heap.size w w1 := hb0.trans (hb1.mono hb0.size)
         replace q0 := cell_next q0 hb1
         replace q1 := cell_next q1 hb1
         replace p0 := cell_next p0 hb1
         replace p1 := cell_next p1 hb1
         replace p2 := cell_next p2 hb1
         replace p3 := cell_next p3 hb1
         replace p4 := cell_next p4 hb1
         replace p5 := cell_next p5 hb1
         replace p6 := cell_next p6 hb1
         clear hb0 hb1 H1
         go_wp2_with fail
         refine (HI.out _).mono ?_
         rintro e w' ⟨rfl, rfl⟩
         go_wp2_with fail
         refine (HK.out _).mono ?_
         rintro e w' ⟨rfl, rfl⟩
         go_wp2
         go_ret
         exact ⟨by first | rfl | simp, hbb⟩
       · rw [decide_eq_false hik, Bool.not_false, Bool.true_and]
         obtain ⟨ha, hb⟩ := hI rfl
         obtain ⟨ha', hb'⟩ := hK rfl
         clear hI hK
         obtain ⟨i, rfl⟩ := Int.eq_ofNat_of_zero_le ha
         obtain ⟨k, rfl⟩ := Int.eq_ofNat_of_zero_le ha'
         have hi : i < l.length := by rw [Hn.out]; omega
         have hk : k < l.length := by rw [Hn.out]; omega
         have hlti : (i : Int) < (nf : Int) := by omega
         have hltk : (k : Int) < (nf : Int) := by omega
         have hne : ((i : Int) == (k : Int)) = false := by simp; omega
         have hne2 : (i == k) = false := by simp; omega
         have hci := (HC.out rfl i hi).1
         have hck := (HC.out rfl k hk).2
         have hcm := HM.out rfl
         have hfa : forbAt ⟨xr, l⟩ c (i : Int) (k : Int) = forb c l[i] l[k] := by
           unfold forbAt
           rw [show (i : Int).toNat = i from rfl, show (k : Int).toNat = k from rfl, List.getElem?_eq_getElem hi, List.getElem?_eq_getElem hk]
         rw [hfa]
         clear hfa HC HM hik ha ha' hb hb'
         have Hci := Lib.hid hci
         have Hck := Lib.hid hck
         have Hcm := Lib.hid hcm
         clear hci hck hcm
         obtain ⟨b, off, av, cv, rfl, hbB, x0, x1, hx⟩ := HF.out _ (Below.refl _ _) i hi
         obtain ⟨b', off', av', cv', e', hbB', y0, y1, hy⟩ := HF.out _ (Below.refl _ _) k hk
         obtain ⟨rfl, rfl⟩ : b = b' ∧ off = off' := by simp at e'; exact e'
         have hX := (cFct_inv hx).1
         have hY := (cFct_inv hy).1
         have hmx := (slice_len hX).2
         have hmy := (slice_len hY).2
         unfold maxLen at hmx hmy
         have HX : Hid (∀ j (hj : j < l[i].vals.length), _) := fun j hj => ints_at hX j hj
         have HY : Hid (∀ j (hj : j < l[k].vals.length), _) := fun j hj => ints_at hY j hj
         clear e' hx hy hX hY hbB' HF
         unfold forb
         generalize l[i] = x at *
         generalize l[k] = y at *
         obtain ⟨rx, vx⟩ := x
         obtain ⟨ry, vy⟩ := y
         obtain ⟨r1, r2, j1, j2, c1, c2, cm⟩ := c
         simp only at *
         by_cases hrx : rx = r1
         · by_cases hry : ry = r2
           · subst hrx
             subst hry
             rw [decide_eq_true rfl, decide_eq_true rfl, Bool.true_and, Bool.true_and]
             obtain ⟨ha, hb, hc, hd⟩ := Hci.out rfl
             obtain ⟨ha', hb', hc', hd'⟩ := Hck.out rfl
             simp only at ha hb hc hd ha' hb' hc' hd'
             clear Hci Hck
             obtain ⟨j1, rfl⟩ := Int.eq_ofNat_of_zero_le ha
             obtain ⟨c1, rfl⟩ := Int.eq_ofNat_of_zero_le hc
             obtain ⟨j2, rfl⟩ := Int.eq_ofNat_of_zero_le ha'
             obtain ⟨c2, rfl⟩ := Int.eq_ofNat_of_zero_le hc'
             have hj1 : j1 < vx.length := by omega
             have hc1 : c1 < vx.length := by omega
             have hj2 : j2 < vy.length := by omega
             have hc2 : c2 < vy.length := by omega
             rw [valAt_nat (x := ⟨rx, vx⟩) hj1, valAt_nat (x := ⟨rx, vx⟩) hc1, valAt_nat (x := ⟨ry, vy⟩) hj2, valAt_nat (x := ⟨ry, vy⟩) hc2]
             obtain ⟨d, of1, rfl, hdB, u1⟩ := HX.out j1 hj1
             obtain ⟨d', of1', e', hdB', u2⟩ := HX.out c1 hc1
             obtain ⟨rfl, rfl⟩ : d = d' ∧ of1 = of1' := by simp at e'; exact e'
             obtain ⟨f, of2, rfl, hfB, v1⟩ := HY.out j2 hj2
             obtain ⟨f', of2', e2, hfB', v2⟩ := HY.out c2 hc2
             obtain ⟨rfl, rfl⟩ : f = f' ∧ of2 = of2' := by simp at e2; exact e2
             clear HX HY e' e2 hdB' hfB' ha hb hc hd ha' hb' hc' hd'
             simp only
             generalize vx[j1] = p at *
             generalize vx[c1] = q at *
             generalize vy[j2] = p' at *
             generalize vy[c2] = q' at *
             obtain ⟨n, hn⟩ : ∃ n : Nat, vx.length = n := ⟨_, rfl⟩
             obtain ⟨m, hm2⟩ : ∃ n : Nat, vy.length = n := ⟨_, rfl⟩
             rw [hn] at hj1 hc1 hmx x1
             rw [hm2] at hj2 hc2 hmy y1
             clear hn hm2
             have i1 : (0 : Int) ≤ (j1 : Int) := Int.natCast_nonneg _
             have i2 : (0 : Int) ≤ (j2 : Int) := Int.natCast_nonneg _
             have i3 : (0 : Int) ≤ (c1 : Int) := Int.natCast_nonneg _
             have i4 : (0 : Int) ≤ (c2 : Int) := Int.natCast_nonneg _
             by_cases hpp : p = p'
             · subst hpp
               rw [decide_eq_true rfl, Bool.true_and]
               rcases Hcm.out with hcm | hcm
               · subst hcm
                 clear Hcm
                 obtain ⟨wx, hwx⟩ : ∃ wx, wx = (w.alloc (Obj.cells #[.slice a0 n0 cap0, .slice (some ⟨b, off, none⟩) nf cap1] 34)).alloc (Obj.cells #[.int .i64 rx, .int .i64 ry, .int .i64 j1, .int .i64 j2, .int .i64 c1, .int .i64 c2, .int .i64 1] 59) := ⟨_, rfl⟩
                 have hb0 : Below w.heap.size w wx := by rw [hwx]; go_grown
                 have q0 : wx.cell? ⟨w.heap.size, 0, none⟩ = some (.slice a0 n0 cap0) := by rw [hwx]; go_simp
                 have q1 : wx.cell? ⟨w.heap.size, 1, none⟩ = some (.slice (some ⟨b, off, none⟩) nf cap1) := by rw [hwx]; go_simp
                 have p0 : wx.cell? ⟨w.heap.size + 1, 0, none⟩ = some (.int .i64 rx) := by rw [hwx]; go_simp
                 have p1 : wx.cell? ⟨w.heap.size + 1, 1, none⟩ = some (.int .i64 ry) := by rw [hwx]; go_simp
                 have p2 : wx.cell? ⟨w.heap.size + 1, 2, none⟩ = some (.int .i64 j1) := by rw [hwx]; go_simp
                 have p3 : wx.cell? ⟨w.heap.size + 1, 3, none⟩ = some (.int .i64 j2) := by rw [hwx]; go_simp
                 have p4 : wx.cell? ⟨w.heap.size + 1, 4, none⟩ = some (.int .i64 c1) := by rw [hwx]; go_simp
                 have p5 : wx.cell? ⟨w.heap.size + 1, 5, none⟩ = some (.int .i64 c2) := by rw [hwx]; go_simp
                 have p6 : wx.cell? ⟨w.heap.size + 1, 6, none⟩ = some (.int .i64 1) := by rw [hwx]; go_simp
                 have Hwx := Lib.hid hwx
                 clear hwx
                 replace x0 := cell_next x0 hb0
                 replace x1 := cell_next x1 hb0
                 replace y0 := cell_next y0 hb0
                 replace y1 := cell_next y1 hb0
                 replace u1 := cell_next u1 hb0
                 replace u2 := cell_next u2 hb0
                 replace v1 := cell_next v1 hb0
                 replace v2 := cell_next v2 hb0
                 go_enter Tryz.func64, Tryz.ntmps64
                 go_wp2_with fail
                 rw [← Hwx.out]
                 clear Hwx
                 refine (H1.out _ hb0).mono ?_
                 rintro e w1 ⟨rfl, hb1⟩
                 have hbb : Below w.heap.size w w1 := hb0.trans (hb1.mono hb0.size)
                 replace x0 := cell_next x0 hb1
                 replace x1 := cell_next x1 hb1
                 replace y0 := cell_next y0 hb1
                 replace y1 := cell_next y1 hb1
                 replace u1 := cell_next u1 hb1
                 replace u2 := cell_next u2 hb1
                 replace v1 := cell_next v1 hb1
                 replace v2 := cell_next v2 hb1
                 replace q0 := cell_next q0 hb1
                 replace q1 := cell_next q1 hb1
                 replace p0 := cell_next p0 hb1
                 replace p1 := cell_next p1 hb1
                 replace p2 := cell_next p2 hb1
                 replace p3 := cell_next p3 hb1
                 replace p4 := cell_next p4 hb1
                 replace p5 := cell_next p5 hb1
                 replace p6 := cell_next p6 hb1
                 clear hb0 hb1 H1
                 have L0 := World.block_lt_of_cell? w1 _ q1
                 have L1 := World.block_lt_of_cell? w1 _ p0
                 have L2 := World.block_lt_of_cell? w1 _ x0
                 have L3 := World.block_lt_of_cell? w1 _ x1
                 have L4 := World.block_lt_of_cell? w1 _ y0
                 have L5 := World.block_lt_of_cell? w1 _ y1
                 have L6 := World.block_lt_of_cell? w1 _ u1
                 have L7 := World.block_lt_of_cell? w1 _ u2
                 have L8 := World.block_lt_of_cell? w1 _ v1
                 have L9 := World.block_lt_of_cell? w1 _ v2
                 simp only at L0 L1 L2 L3 L4 L5 L6 L7 L8 L9
                 go_wp2_with fail
                 refine (HI.out _).mono ?_
                 rintro e w' ⟨rfl, rfl⟩
                 go_wp2_with fail
                 refine (HK.out _).mono ?_
                 rintro e w' ⟨rfl, rfl⟩
                 go_wp2_with fail
                 obtain ⟨wy, hwy⟩ : ∃ wy, wy = (w1.alloc (Obj.cells #[.int .i64 rx, .slice (some ⟨d, of1, none⟩) n cv] 89)).alloc (Obj.cells #[.int .i64 ry, .slice (some ⟨f, of2, none⟩) m cv'] 89) := ⟨_, rfl⟩
                 rw [← hwy]
                 have hb2 : Below w1.heap.size w1 wy := by rw [hwy]; go_grown
                 have Ga := grow_cell (w := wy) (p := ⟨w1.heap.size, 0, none⟩) (v := .int .i64 rx) (by rw [hwy]; go_simp)
                 have Gb := grow_cell (w := wy) (p := ⟨w1.heap.size, 1, none⟩) (v := .slice (some ⟨d, of1, none⟩) n cv) (by rw [hwy]; go_simp)
                 have Gc := grow_cell (w := wy) (p := ⟨w1.heap.size + 1, 0, none⟩) (v := .int .i64 ry) (by rw [hwy]; go_simp)
                 have Gd := grow_cell (w := wy) (p := ⟨w1.heap.size + 1, 1, none⟩) (v := .slice (some ⟨f, of2, none⟩) m cv') (by rw [hwy]; go_simp)
                 have Gx0 := grow_cell (cell_next x0 hb2)
                 have Gx1 := grow_cell (cell_next x1 hb2)
                 have Gy0 := grow_cell (cell_next y0 hb2)
                 have Gy1 := grow_cell (cell_next y1 hb2)
                 have Gu1 := grow_cell (cell_next u1 hb2)
                 have Gu2 := grow_cell (cell_next u2 hb2)
                 have Gv1 := grow_cell (cell_next v1 hb2)
                 have Gv2 := grow_cell (cell_next v2 hb2)
                 have Gp0 := grow_cell (cell_next p0 hb2)
                 have Gp1 := grow_cell (cell_next p1 hb2)
                 have Gp2 := grow_cell (cell_next p2 hb2)
                 have Gp3 := grow_cell (cell_next p3 hb2)
                 have Gp4 := grow_cell (cell_next p4 hb2)
                 have Gp5 := grow_cell (cell_next p5 hb2)
                 have Gp6 := grow_cell (cell_next p6 hb2)
                 have hbc : Below w.heap.size w wy := hbb.trans (hb2.mono hbb.size)
                 clear hwy hb2 x0 x1 y0 y1 u1 u2 v1 v2 p0 p1 p2 p3 p4 p5 p6 L0 L1 L2 L3 L4 L5 L6 L7 L8 L9
                 refine wp_region_grow (by kernel_rfl) (by kernel_rfl) ?_
                 repeat (go_big_quiet_step (fail))
                 refine wpQuiet_nil ?_
                 rintro _ ⟨nq, rfl⟩
                 have hbd : Below w.heap.size w nq.W := hbc.trans (nq.below.mono hbc.size)
                 have KGa := Ga nq
                 have KGb := Gb nq
                 have KGc := Gc nq
                 have KGd := Gd nq
                 have KGx0 := Gx0 nq
                 have KGx1 := Gx1 nq
                 have KGy0 := Gy0 nq
                 have KGy1 := Gy1 nq
                 have KGu1 := Gu1 nq
                 have KGu2 := Gu2 nq
                 have KGv1 := Gv1 nq
                 have KGv2 := Gv2 nq
                 have KGp0 := Gp0 nq
                 have KGp1 := Gp1 nq
                 have KGp2 := Gp2 nq
                 have KGp3 := Gp3 nq
                 have KGp4 := Gp4 nq
                 have KGp5 := Gp5 nq
                 have KGp6 := Gp6 nq
                 replace Ga := grow_cell KGa
                 replace Gb := grow_cell KGb
                 replace Gc := grow_cell KGc
                 replace Gd := grow_cell KGd
                 replace Gx0 := grow_cell KGx0
                 replace Gx1 := grow_cell KGx1
                 replace Gy0 := grow_cell KGy0
                 replace Gy1 := grow_cell KGy1
                 replace Gu1 := grow_cell KGu1
                 replace Gu2 := grow_cell KGu2
                 replace Gv1 := grow_cell KGv1
                 replace Gv2 := grow_cell KGv2
                 replace Gp0 := grow_cell KGp0
                 replace Gp1 := grow_cell KGp1
                 replace Gp2 := grow_cell KGp2
                 replace Gp3 := grow_cell KGp3
                 replace Gp4 := grow_cell KGp4
                 replace Gp5 := grow_cell KGp5
                 replace Gp6 := grow_cell KGp6
                 generalize nq.W = wz at *
                 go_wp2_with fail
                 refine wp_region_grow (by kernel_rfl) (by kernel_rfl) ?_
                 repeat (go_big_quiet_step (fail))
                 refine wpQuiet_nil ?_
                 rintro _ ⟨nr, rfl⟩
                 go_wp2
                 go_ret
                 exact ⟨by first | rfl | (simp; done) | (simp; rfl), hbd.trans (nr.below.mono hbd.size)⟩
               · subst hcm
                 clear Hcm
                 obtain ⟨wx, hwx⟩ : ∃ wx, wx = (w.alloc (Obj.cells #[.slice a0 n0 cap0, .slice (some ⟨b, off, none⟩) nf cap1] 34)).alloc (Obj.cells #[.int .i64 rx, .int .i64 ry, .int .i64 j1, .int .i64 j2, .int .i64 c1, .int .i64 c2, .int .i64 2] 59) := ⟨_, rfl⟩
                 have hb0 : Below w.heap.size w wx := by rw [hwx]; go_grown
                 have q0 : wx.cell? ⟨w.heap.size, 0, none⟩ = some (.slice a0 n0 cap0) := by rw [hwx]; go_simp
                 have q1 : wx.cell? ⟨w.heap.size, 1, none⟩ = some (.slice (some ⟨b, off, none⟩) nf cap1) := by rw [hwx]; go_simp
                 have p0 : wx.cell? ⟨w.heap.size + 1, 0, none⟩ = some (.int .i64 rx) := by rw [hwx]; go_simp
                 have p1 : wx.cell? ⟨w.heap.size + 1, 1, none⟩ = some (.int .i64 ry) := by rw [hwx]; go_simp
                 have p2 : wx.cell? ⟨w.heap.size + 1, 2, none⟩ = some (.int .i64 j1) := by rw [hwx]; go_simp
                 have p3 : wx.cell? ⟨w.heap.size + 1, 3, none⟩ = some (.int .i64 j2) := by rw [hwx]; go_simp
                 have p4 : wx.cell? ⟨w.heap.size + 1, 4, none⟩ = some (.int .i64 c1) := by rw [hwx]; go_simp
                 have p5 : wx.cell? ⟨w.heap.size + 1, 5, none⟩ = some (.int .i64 c2) := by rw [hwx]; go_simp
                 have p6 : wx.cell? ⟨w.heap.size + 1, 6, none⟩ = some (.int .i64 2) := by rw [hwx]; go_simp
                 have Hwx := Lib.hid hwx
                 clear hwx
                 replace x0 := cell_next x0 hb0
                 replace x1 := cell_next x1 hb0
                 replace y0 := cell_next y0 hb0
                 replace y1 := cell_next y1 hb0
                 replace u1 := cell_next u1 hb0
                 replace u2 := cell_next u2 hb0
                 replace v1 := cell_next v1 hb0
                 replace v2 := cell_next v2 hb0
                 go_enter Tryz.func64, Tryz.ntmps64
                 go_wp2_with fail
                 rw [← Hwx.out]
                 clear Hwx
                 refine (H1.out _ hb0).mono ?_
                 rintro e w1 ⟨rfl, hb1⟩
                 have hbb : Below w.heap.size w w1 := hb0.trans (hb1.mono hb0.size)
                 replace x0 := cell_next x0 hb1
                 replace x1 := cell_next x1 hb1
                 replace y0 := cell_next y0 hb1
                 replace y1 := cell_next y1 hb1
                 replace u1 := cell_next u1 hb1
                 replace u2 := cell_next u2 hb1
                 replace v1 := cell_next v1 hb1
                 replace v2 := cell_next v2 hb1
                 replace q0 := cell_next q0 hb1
                 replace q1 := cell_next q1 hb1
                 replace p0 := cell_next p0 hb1
                 replace p1 := cell_next p1 hb1
                 replace p2 := cell_next p2 hb1
                 replace p3 := cell_next p3 hb1
                 replace p4 := cell_next p4 hb1
                 replace p5 := cell_next p5 hb1
                 replace p6 := cell_next p6 hb1
                 clear hb0 hb1 H1
                 have L0 := World.block_lt_of_cell? w1 _ q1
                 have L1 := World.block_lt_of_cell? w1 _ p0
                 have L2 := World.block_lt_of_cell? w1 _ x0
                 have L3 := World.block_lt_of_cell? w1 _ x1
                 have L4 := World.block_lt_of_cell? w1 _ y0
                 have L5 := World.block_lt_of_cell? w1 _ y1
                 have L6 := World.block_lt_of_cell? w1 _ u1
                 have L7 := World.block_lt_of_cell? w1 _ u2
                 have L8 := World.block_lt_of_cell? w1 _ v1
                 have L9 := World.block_lt_of_cell? w1 _ v2
                 simp only at L0 L1 L2 L3 L4 L5 L6 L7 L8 L9
                 go_wp2_with fail
                 refine (HI.out _).mono ?_
                 rintro e w' ⟨rfl, rfl⟩
                 go_wp2_with fail
                 refine (HK.out _).mono ?_
                 rintro e w' ⟨rfl, rfl⟩
                 go_wp2_with fail
                 obtain ⟨wy, hwy⟩ : ∃ wy, wy = (w1.alloc (Obj.cells #[.int .i64 rx, .slice (some ⟨d, of1, none⟩) n cv] 89)).alloc (Obj.cells #[.int .i64 ry, .slice (some ⟨f, of2, none⟩) m cv'] 89) := ⟨_, rfl⟩
                 rw [← hwy]
                 have hb2 : Below w1.heap.size w1 wy := by rw [hwy]; go_grown
                 have Ga := grow_cell (w := wy) (p := ⟨w1.heap.size, 0, none⟩) (v := .int .i64 rx) (by rw [hwy]; go_simp)
                 have Gb := grow_cell (w := wy) (p := ⟨w1.heap.size, 1, none⟩) (v := .slice (some ⟨d, of1, none⟩) n cv) (by rw [hwy]; go_simp)
                 have Gc := grow_cell (w := wy) (p := ⟨w1.heap.size + 1, 0, none⟩) (v := .int .i64 ry) (by rw [hwy]; go_simp)
                 have Gd := grow_cell (w := wy) (p := ⟨w1.heap.size + 1, 1, none⟩) (v := .slice (some ⟨f, of2, none⟩) m cv') (by rw [hwy]; go_simp)
                 have Gx0 := grow_cell (cell_next x0 hb2)
                 have Gx1 := grow_cell (cell_next x1 hb2)
                 have Gy0 := grow_cell (cell_next y0 hb2)
                 have Gy1 := grow_cell (cell_next y1 hb2)
                 have Gu1 := grow_cell (cell_next u1 hb2)
                 have Gu2 := grow_cell (cell_next u2 hb2)
                 have Gv1 := grow_cell (cell_next v1 hb2)
                 have Gv2 := grow_cell (cell_next v2 hb2)
                 have Gp0 := grow_cell (cell_next p0 hb2)
                 have Gp1 := grow_cell (cell_next p1 hb2)
                 have Gp2 := grow_cell (cell_next p2 hb2)
                 have Gp3 := grow_cell (cell_next p3 hb2)
                 have Gp4 := grow_cell (cell_next p4 hb2)
                 have Gp5 := grow_cell (cell_next p5 hb2)
                 have Gp6 := grow_cell (cell_next p6 hb2)
                 have hbc : Below w.heap.size w wy := hbb.trans (hb2.mono hbb.size)
                 clear hwy hb2 x0 x1 y0 y1 u1 u2 v1 v2 p0 p1 p2 p3 p4 p5 p6 L0 L1 L2 L3 L4 L5 L6 L7 L8 L9
                 refine wp_region_grow (by kernel_rfl) (by kernel_rfl) ?_
                 repeat (go_big_quiet_step (fail))
                 refine wpQuiet_nil ?_
                 rintro _ ⟨nq, rfl⟩
                 have hbd : Below w.heap.size w nq.W := hbc.trans (nq.below.mono hbc.size)
                 have KGa := Ga nq
                 have KGb := Gb nq
                 have KGc := Gc nq
                 have KGd := Gd nq
                 have KGx0 := Gx0 nq
                 have KGx1 := Gx1 nq
                 have KGy0 := Gy0 nq
                 have KGy1 := Gy1 nq
                 have KGu1 := Gu1 nq
                 have KGu2 := Gu2 nq
                 have KGv1 := Gv1 nq
                 have KGv2 := Gv2 nq
                 have KGp0 := Gp0 nq
                 have KGp1 := Gp1 nq
                 have KGp2 := Gp2 nq
                 have KGp3 := Gp3 nq
                 have KGp4 := Gp4 nq
                 have KGp5 := Gp5 nq
                 have KGp6 := Gp6 nq
                 replace Ga := grow_cell KGa
                 replace Gb := grow_cell KGb
                 replace Gc := grow_cell KGc
                 replace Gd := grow_cell KGd
                 replace Gx0 := grow_cell KGx0
                 replace Gx1 := grow_cell KGx1
                 replace Gy0 := grow_cell KGy0
                 replace Gy1 := grow_cell KGy1
                 replace Gu1 := grow_cell KGu1
                 replace Gu2 := grow_cell KGu2
                 replace Gv1 := grow_cell KGv1
                 replace Gv2 := grow_cell KGv2
                 replace Gp0 := grow_cell KGp0
                 replace Gp1 := grow_cell KGp1
                 replace Gp2 := grow_cell KGp2
                 replace Gp3 := grow_cell KGp3
                 replace Gp4 := grow_cell KGp4
                 replace Gp5 := grow_cell KGp5
                 replace Gp6 := grow_cell KGp6
                 generalize nq.W = wz at *
                 go_wp2_with fail
                 refine wp_region_grow (by kernel_rfl) (by kernel_rfl) ?_
                 repeat (go_big_quiet_step (fail))
                 refine wpQuiet_nil ?_
                 rintro _ ⟨nr, rfl⟩
                 go_wp2
                 go_ret
                 exact ⟨by first | rfl | (simp; done) | (simp; rfl), hbd.trans (nr.below.mono hbd.size)⟩
             · have hpn : (p != p') = true := by simp [hpp]
               clear Hcm
               rw [decide_eq_false hpp, Bool.false_and]
               obtain ⟨wx, hwx⟩ : ∃ wx, wx = (w.alloc (Obj.cells #[.slice a0 n0 cap0, .slice (some ⟨b, off, none⟩) nf cap1] 34)).alloc (Obj.cells #[.int .i64 rx, .int .i64 ry, .int .i64 j1, .int .i64 j2, .int .i64 c1, .int .i64 c2, .int .i64 cm] 59) := ⟨_, rfl⟩
               have hb0 : Below w.heap.size w wx := by rw [hwx]; go_grown
               have q0 : wx.cell? ⟨w.heap.size, 0, none⟩ = some (.slice a0 n0 cap0) := by rw [hwx]; go_simp
               have q1 : wx.cell? ⟨w.heap.size, 1, none⟩ = some (.slice (some ⟨b, off, none⟩) nf cap1) := by rw [hwx]; go_simp
               have p0 : wx.cell? ⟨w.heap.size + 1, 0, none⟩ = some (.int .i64 rx) := by rw [hwx]; go_simp
               have p1 : wx.cell? ⟨w.heap.size + 1, 1, none⟩ = some (.int .i64 ry) := by rw [hwx]; go_simp
               have p2 : wx.cell? ⟨w.heap.size + 1, 2, none⟩ = some (.int .i64 j1) := by rw [hwx]; go_simp
               have p3 : wx.cell? ⟨w.heap.size + 1, 3, none⟩ = some (.int .i64 j2) := by rw [hwx]; go_simp
               have p4 : wx.cell? ⟨w.heap.size + 1, 4, none⟩ = some (.int .i64 c1) := by rw [hwx]; go_simp
               have p5 : wx.cell? ⟨w.heap.size + 1, 5, none⟩ = some (.int .i64 c2) := by rw [hwx]; go_simp
               have p6 : wx.cell? ⟨w.heap.size + 1, 6, none⟩ = some (.int .i64 cm) := by rw [hwx]; go_simp
               have Hwx := Lib.hid hwx
               clear hwx
               replace x0 := cell_next x0 hb0
               replace x1 := cell_next x1 hb0
               replace y0 := cell_next y0 hb0
               replace y1 := cell_next y1 hb0
               replace u1 := cell_next u1 hb0
               replace u2 := cell_next u2 hb0
               replace v1 := cell_next v1 hb0
               replace v2 := cell_next v2 hb0
               go_enter Tryz.func64, Tryz.ntmps64
               go_wp2_with fail
               rw [← Hwx.out]
               clear Hwx
               refine (H1.out _ hb0).mono ?_
               rintro e w1 ⟨rfl, hb1⟩
               have hbb : Below w.heap.size w w1 := hb0.trans (hb1.mono hb0.size)
               replace x0 := cell_next x0 hb1
               replace x1 := cell_next x1 hb1
               replace y0 := cell_next y0 hb1
               replace y1 := cell_next y1 hb1
               replace u1 := cell_next u1 hb1
               replace u2 := cell_next u2 hb1
               replace v1 := cell_next v1 hb1
               replace v2 := cell_next v2 hb1
               replace q0 := cell_next q0 hb1
               replace q1 := cell_next q1 hb1
               replace p0 := cell_next p0 hb1
               replace p1 := cell_next p1 hb1
               replace p2 := cell_next p2 hb1
               replace p3 := cell_next p3 hb1
               replace p4 := cell_next p4 hb1
               replace p5 := cell_next p5 hb1
               replace p6 := cell_next p6 hb1
               clear hb0 hb1 H1
               have L0 := World.block_lt_of_cell? w1 _ q1
               have L1 := World.block_lt_of_cell? w1 _ p0
               have L2 := World.block_lt_of_cell? w1 _ x0
               have L3 := World.block_lt_of_cell? w1 _ x1
               have L4 := World.block_lt_of_cell? w1 _ y0
               have L5 := World.block_lt_of_cell? w1 _ y1
               have L6 := World.block_lt_of_cell? w1 _ u1
               have L7 := World.block_lt_of_cell? w1 _ u2
               have L8 := World.block_lt_of_cell? w1 _ v1
               have L9 := World.block_lt_of_cell? w1 _ v2
               simp only at L0 L1 L2 L3 L4 L5 L6 L7 L8 L9
               go_wp2_with fail
               refine (HI.out _).mono ?_
               rintro e w' ⟨rfl, rfl⟩
               go_wp2_with fail
               refine (HK.out _).mono ?_
               rintro e w' ⟨rfl, rfl⟩
               go_wp2_with fail
               obtain ⟨wy, hwy⟩ : ∃ wy, wy = (w1.alloc (Obj.cells #[.int .i64 rx, .slice (some ⟨d, of1, none⟩) n cv] 89)).alloc (Obj.cells #[.int .i64 ry, .slice (some ⟨f, of2, none⟩) m cv'] 89) := ⟨_, rfl⟩
               rw [← hwy]
               have hb2 : Below w1.heap.size w1 wy := by rw [hwy]; go_grown
               have Ga := grow_cell (w := wy) (p := ⟨w1.heap.size, 0, none⟩) (v := .int .i64 rx) (by rw [hwy]; go_simp)
               have Gb := grow_cell (w := wy) (p := ⟨w1.heap.size, 1, none⟩) (v := .slice (some ⟨d, of1, none⟩) n cv) (by rw [hwy]; go_simp)
               have Gc := grow_cell (w := wy) (p := ⟨w1.heap.size + 1, 0, none⟩) (v := .int .i64 ry) (by rw [hwy]; go_simp)
               have Gd := grow_cell (w := wy) (p := ⟨w1.heap.size + 1, 1, none⟩) (v := .slice (some ⟨f, of2, none⟩) m cv') (by rw [hwy]; go_simp)
               have Gx0 := grow_cell (cell_next x0 hb2)
               have Gx1 := grow_cell (cell_next x1 hb2)
               have Gy0 := grow_cell (cell_next y0 hb2)
               have Gy1 := grow_cell (cell_next y1 hb2)
               have Gu1 := grow_cell (cell_next u1 hb2)
               have Gu2 := grow_cell (cell_next u2 hb2)
               have Gv1 := grow_cell (cell_next v1 hb2)
               have Gv2 := grow_cell (cell_next v2 hb2)
               have Gp0 := grow_cell (cell_next p0 hb2)
               have Gp1 := grow_cell (cell_next p1 hb2)
               have Gp2 := grow_cell (cell_next p2 hb2)
               have Gp3 := grow_cell (cell_next p3 hb2)
               have Gp4 := grow_cell (cell_next p4 hb2)
               have Gp5 := grow_cell (cell_next p5 hb2)
               have Gp6 := grow_cell (cell_next p6 hb2)
               have hbc : Below w.heap.size w wy := hbb.trans (hb2.mono hbb.size)
               clear hwy hb2 x0 x1 y0 y1 u1 u2 v1 v2 p0 p1 p2 p3 p4 p5 p6 L0 L1 L2 L3 L4 L5 L6 L7 L8 L9
               refine wp_region_grow (by kernel_rfl) (by kernel_rfl) ?_
               repeat (go_big_quiet_step (fail))
               refine wpQuiet_nil ?_
               rintro _ ⟨nq, rfl⟩
               go_wp2
               go_ret
               exact ⟨by first | rfl | simp, hbc.trans (nq.below.mono hbc.size)⟩
           · subst hrx
             have hpn : (ry != r2) = true := by simp [hry]
             rw [decide_eq_true rfl, decide_eq_false hry, Bool.true_and, Bool.false_and]
             clear Hcm Hci Hck hry
             clear HX HY
             generalize vx.length = n at *
             generalize vy.length = m at *
             obtain ⟨wx, hwx⟩ : ∃ wx, wx = (w.alloc (Obj.cells #[.slice a0 n0 cap0, .slice (some ⟨b, off, none⟩) nf cap1] 34)).alloc (Obj.cells #[.int .i64 rx, .int .i64 r2, .int .i64 j1, .int .i64 j2, .int .i64 c1, .int .i64 c2, .int .i64 cm] 59) := ⟨_, rfl⟩
             have hb0 : Below w.heap.size w wx := by rw [hwx]; go_grown
             have q0 : wx.cell? ⟨w.heap.size, 0, none⟩ = some (.slice a0 n0 cap0) := by rw [hwx]; go_simp
             have q1 : wx.cell? ⟨w.heap.size, 1, none⟩ = some (.slice (some ⟨b, off, none⟩) nf cap1) := by rw [hwx]; go_simp
             have p0 : wx.cell? ⟨w.heap.size + 1, 0, none⟩ = some (.int .i64 rx) := by rw [hwx]; go_simp
             have p1 : wx.cell? ⟨w.heap.size + 1, 1, none⟩ = some (.int .i64 r2) := by rw [hwx]; go_simp
             have p2 : wx.cell? ⟨w.heap.size + 1, 2, none⟩ = some (.int .i64 j1) := by rw [hwx]; go_simp
             have p3 : wx.cell? ⟨w.heap.size + 1, 3, none⟩ = some (.int .i64 j2) := by rw [hwx]; go_simp
             have p4 : wx.cell? ⟨w.heap.size + 1, 4, none⟩ = some (.int .i64 c1) := by rw [hwx]; go_simp
             have p5 : wx.cell? ⟨w.heap.size + 1, 5, none⟩ = some (.int .i64 c2) := by rw [hwx]; go_simp
             have p6 : wx.cell? ⟨w.heap.size + 1, 6, none⟩ = some (.int .i64 cm) := by rw [hwx]; go_simp
             have Hwx := Lib.hid hwx
             clear hwx
             replace x0 := cell_next x0 hb0
             replace x1 := cell_next x1 hb0
             replace y0 := cell_next y0 hb0
             replace y1 := cell_next y1 hb0
             go_enter Tryz.func64, Tryz.ntmps64
             go_wp2_with fail
             rw [← Hwx.out]
             clear Hwx
             refine (H1.out _ hb0).mono ?_
             rintro e w1 ⟨rfl, hb1⟩
             have hbb : Below w.heap.size w w1 := hb0.trans (hb1.mono hb0.size)
             replace x0 := cell_next x0 hb1
             replace x1 := cell_next x1 hb1
             replace y0 := cell_next y0 hb1
             replace y1 := cell_next y1 hb1
             replace q0 := cell_next q0 hb1
             replace q1 := cell_next q1 hb1
             replace p0 := cell_next p0 hb1
             replace p1 := cell_next p1 hb1
             replace p2 := cell_next p2 hb1
             replace p3 := cell_next p3 hb1
             replace p4 := cell_next p4 hb1
             replace p5 := cell_next p5 hb1
             replace p6 := cell_next p6 hb1
             clear hb0 hb1 H1
             have L0 := World.block_lt_of_cell? w1 _ q1
             have L1 := World.block_lt_of_cell? w1 _ p0
             have L2 := World.block_lt_of_cell? w1 _ x0
             have L3 := World.block_lt_of_cell? w1 _ x1
             have L4 := World.block_lt_of_cell? w1 _ y0
             have L5 := World.block_lt_of_cell? w1 _ y1
             simp only at L0 L1 L2 L3 L4 L5
             go_wp2_with fail
             refine (HI.out _).mono ?_
             rintro e w' ⟨rfl, rfl⟩
             go_wp2_with fail
             refine (HK.out _).mono ?_
             rintro e w' ⟨rfl, rfl⟩
             go_wp2_with fail
             obtain ⟨wy, hwy⟩ : ∃ wy, wy = (w1.alloc (Obj.cells #[.int .i64 rx, .slice av n cv] 89)).alloc (Obj.cells #[.int .i64 ry, .slice av' m cv'] 89) := ⟨_, rfl⟩
             rw [← hwy]
             have hb2 : Below w1.heap.size w1 wy := by rw [hwy]; go_grown
             have Ga := grow_cell (w := wy) (p := ⟨w1.heap.size, 0, none⟩) (v := .int .i64 rx) (by rw [hwy]; go_simp)
             have Gb := grow_cell (w := wy) (p := ⟨w1.heap.size, 1, none⟩) (v := .slice av n cv) (by rw [hwy]; go_simp)
             have Gc := grow_cell (w := wy) (p := ⟨w1.heap.size + 1, 0, none⟩) (v := .int .i64 ry) (by rw [hwy]; go_simp)
             have Gd := grow_cell (w := wy) (p := ⟨w1.heap.size + 1, 1, none⟩) (v := .slice av' m cv') (by rw [hwy]; go_simp)
             have Gx0 := grow_cell (cell_next x0 hb2)
             have Gx1 := grow_cell (cell_next x1 hb2)
             have Gy0 := grow_cell (cell_next y0 hb2)
             have Gy1 := grow_cell (cell_next y1 hb2)
             have Gp0 := grow_cell (cell_next p0 hb2)
             have Gp1 := grow_cell (cell_next p1 hb2)
             have Gp2 := grow_cell (cell_next p2 hb2)
             have Gp3 := grow_cell (cell_next p3 hb2)
             have Gp4 := grow_cell (cell_next p4 hb2)
             have Gp5 := grow_cell (cell_next p5 hb2)
             have Gp6 := grow_cell (cell_next p6 hb2)
             have hbc : Below w.heap.size w wy := hbb.trans (hb2.mono hbb.size)
             clear hwy hb2 x0 x1 y0 y1 p0 p1 p2 p3 p4 p5 p6 L0 L1 L2 L3 L4 L5
             refine wp_region_grow (by kernel_rfl) (by kernel_rfl) ?_
             repeat (go_big_quiet_step (fail))
             refine wpQuiet_nil ?_
             rintro _ ⟨nq, rfl⟩
             go_wp2
             go_ret
             exact ⟨by first | rfl | simp, hbc.trans (nq.below.mono hbc.size)⟩
         · have hpn : (rx != r1) = true := by simp [hrx]
           rw [decide_eq_false hrx, Bool.false_and]
           clear Hcm Hci Hck hrx HX HY
           generalize vx.length = n at *
           generalize vy.length = m at *
           obtain ⟨wx, hwx⟩ : ∃ wx, wx = (w.alloc (Obj.cells #[.slice a0 n0 cap0, .slice (some ⟨b, off, none⟩) nf cap1] 34)).alloc (Obj.cells #[.int .i64 r1, .int .i64 r2, .int .i64 j1, .int .i64 j2, .int .i64 c1, .int .i64 c2, .int .i64 cm] 59) := ⟨_, rfl⟩
           have hb0 : Below w.heap.size w wx := by rw [hwx]; go_grown
           have q0 : wx.cell? ⟨w.heap.size, 0, none⟩ = some (.slice a0 n0 cap0) := by rw [hwx]; go_simp
           have q1 : wx.cell? ⟨w.heap.size, 1, none⟩ = some (.slice (some ⟨b, off, none⟩) nf cap1) := by rw [hwx]; go_simp
           have p0 : wx.cell? ⟨w.heap.size + 1, 0, none⟩ = some (.int .i64 r1) := by rw [hwx]; go_simp
           have p1 : wx.cell? ⟨w.heap.size + 1, 1, none⟩ = some (.int .i64 r2) := by rw [hwx]; go_simp
           have p2 : wx.cell? ⟨w.heap.size + 1, 2, none⟩ = some (.int .i64 j1) := by rw [hwx]; go_simp
           have p3 : wx.cell? ⟨w.heap.size + 1, 3, none⟩ = some (.int .i64 j2) := by rw [hwx]; go_simp
           have p4 : wx.cell? ⟨w.heap.size + 1, 4, none⟩ = some (.int .i64 c1) := by rw [hwx]; go_simp
           have p5 : wx.cell? ⟨w.heap.size + 1, 5, none⟩ = some (.int .i64 c2) := by rw [hwx]; go_simp
           have p6 : wx.cell? ⟨w.heap.size + 1, 6, none⟩ = some (.int .i64 cm) := by rw [hwx]; go_simp
           have Hwx := Lib.hid hwx
           clear hwx
           replace x0 := cell_next x0 hb0
           replace x1 := cell_next x1 hb0
           replace y0 := cell_next y0 hb0
           replace y1 := cell_next y1 hb0
           go_enter Tryz.func64, Tryz.ntmps64
           go_wp2_with fail
           rw [← Hwx.out]
           clear Hwx
           refine (H1.out _ hb0).mono ?_
           rintro e w1 ⟨rfl, hb1⟩
           have hbb : Below w.heap.size w w1 := hb0.trans (hb1.mono hb0.size)
           replace x0 := cell_next x0 hb1
           replace x1 := cell_next x1 hb1
           replace y0 := cell_next y0 hb1
           replace y1 := cell_next y1 hb1
           replace q0 := cell_next q0 hb1
           replace q1 := cell_next q1 hb1
           replace p0 := cell_next p0 hb1
           replace p1 := cell_next p1 hb1
           replace p2 := cell_next p2 hb1
           replace p3 := cell_next p3 hb1
           replace p4 := cell_next p4 hb1
           replace p5 := cell_next p5 hb1
           replace p6 := cell_next p6 hb1
           clear hb0 hb1 H1
           have L0 := World.block_lt_of_cell? w1 _ q1
           have L1 := World.block_lt_of_cell? w1 _ p0
           have L2 := World.block_lt_of_cell? w1 _ x0
           have L3 := World.block_lt_of_cell? w1 _ x1
           have L4 := World.block_lt_of_cell? w1 _ y0
           have L5 := World.block_lt_of_cell? w1 _ y1
           simp only at L0 L1 L2 L3 L4 L5
           go_wp2_with fail
           refine (HI.out _).mono ?_
           rintro e w' ⟨rfl, rfl⟩
           go_wp2_with fail
           refine (HK.out _).mono ?_
           rintro e w' ⟨rfl, rfl⟩
           go_wp2_with fail
           obtain ⟨wy, hwy⟩ : ∃ wy, wy = (w1.alloc (Obj.cells #[.int .i64 rx, .slice av n cv] 89)).alloc (Obj.cells #[.int .i64 ry, .slice av' m cv'] 89) := ⟨_, rfl⟩
           rw [← hwy]
           have hb2 : Below w1.heap.size w1 wy := by rw [hwy]; go_grown
           have Ga := grow_cell (w := wy) (p := ⟨w1.heap.size, 0, none⟩) (v := .int .i64 rx) (by rw [hwy]; go_simp)
           have Gb := grow_cell (w := wy) (p := ⟨w1.heap.size, 1, none⟩) (v := .slice av n cv) (by rw [hwy]; go_simp)
           have Gc := grow_cell (w := wy) (p := ⟨w1.heap.size + 1, 0, none⟩) (v := .int .i64 ry) (by rw [hwy]; go_simp)
           have Gd := grow_cell (w := wy) (p := ⟨w1.heap.size + 1, 1, none⟩) (v := .slice av' m cv') (by rw [hwy]; go_simp)
           have Gx0 := grow_cell (cell_next x0 hb2)
           have Gx1 := grow_cell (cell_next x1 hb2)
           have Gy0 := grow_cell (cell_next y0 hb2)
           have Gy1 := grow_cell (cell_next y1 hb2)
           have Gp0 := grow_cell (cell_next p0 hb2)
           have Gp1 := grow_cell (cell_next p1 hb2)
           have Gp2 := grow_cell (cell_next p2 hb2)
           have Gp3 := grow_cell (cell_next p3 hb2)
           have Gp4 := grow_cell (cell_next p4 hb2)
           have Gp5 := grow_cell (cell_next p5 hb2)
           have Gp6 := grow_cell (cell_next p6 hb2)
           have hbc : Below w.heap.size w wy := hbb.trans (hb2.mono hbb.size)
           clear hwy hb2 x0 x1 y0 y1 p0 p1 p2 p3 p4 p5 p6 L0 L1 L2 L3 L4 L5
           refine wp_region_grow (by kernel_rfl) (by kernel_rfl) ?_
           repeat (go_big_quiet_step (fail))
           refine wpQuiet_nil ?_
           rintro _ ⟨nq, rfl⟩
           go_wp2
           go_ret
           exact ⟨by first | rfl | simp, hbc.trans (nq.below.mono hbc.size)⟩
end

section
/- Chapters 8, 9: edges between facts; the constraints' conflicts. -/
open Go Go.Proofs Go.RowKit
namespace Ab
def eDcn : Enc cDcn := eMap _ (ePair eInt (ePair eInt (ePair eInt (ePair eInt (ePair eInt (ePair eInt eInt))))))
def factS (x : Fct) : S := .a [.d (.v (.int .i64 x.rel)), .d (encIs x.vals)]
def dcS (c : Dcn) : S := .a [.d (.v (.int .i64 c.r1)), .d (.v (.int .i64 c.r2)), .d (.v (.int .i64 c.j1)), .d (.v (.int .i64 c.j2)), .d (.v (.int .i64 c.c1)), .d (.v (.int .i64 c.c2)), .d (.v (.int .i64 c.cmp))]
theorem fact_cut {x : Fct} (g : eFct.good x) {w : World} {K : Nat → Nat → Prop} {ov : Nat → Value} {v : Value} (hK : ∀ b o, K b o → b < w.heap.size) (hr : RdS w (ghA K ov) (factS x) v) :
   ∃ a cap, v = .agg #[.int .i64 x.rel, .slice a x.vals.length cap] ∧ At cFct w x [.int .i64 x.rel, .slice a x.vals.length cap] := by
 obtain ⟨vs, rfl, h⟩ := eFct.atA (x := x) g hK hr
 obtain ⟨a1, c1, rfl, h⟩ := cFct_open h
 exact ⟨a1, c1, rfl, h⟩
theorem dc_cut {c : Dcn} {w : World} {K : Nat → Nat → Prop} {ov : Nat → Value} {v : Value} (g : eDcn.good c) (hK : ∀ b o, K b o → b < w.heap.size) (hr : RdS w (ghA K ov) (dcS c) v) :
   v = .agg #[.int .i64 c.r1, .int .i64 c.r2, .int .i64 c.j1, .int .i64 c.j2, .int .i64 c.c1, .int .i64 c.c2, .int .i64 c.cmp] ∧ At cDcn w c [.int .i64 c.r1, .int .i64 c.r2, .int .i64 c.j1, .int .i64 c.j2, .int .i64 c.c1, .int .i64 c.c2, .int .i64 c.cmp] := by
 obtain ⟨vs, rfl, h⟩ := eDcn.atA (x := c) g hK hr
 have := cDcn_open h
 obtain ⟨rfl, h⟩ := this
 exact ⟨rfl, h⟩
theorem rels_cut {l : List Rel} (g : (eSlice eRel).good l) {w : World} {K : Nat → Nat → Prop} {ov : Nat → Value} {v : Value} (hK : ∀ b o, K b o → b < w.heap.size) (hr : RdS w (ghA K ov) (.d (encRs l)) v) :
   ∃ a cap, v = .slice a l.length cap ∧ At (cSlice cRel) w l [.slice a l.length cap] := by
 have h := (eSlice eRel).at1 (x := l) rfl g hK hr
 obtain ⟨a, cap, e, _⟩ := id h
 injection e with e
 subst e
 exact ⟨a, cap, rfl, h⟩
theorem agreeOnKey_a {l : List Rel} {x y : Fct} (gl : (eSlice eRel).good l) (gx : eFct.good x) (gy : eFct.good y) (hx : validFact l x = true) (hy : validFact l y = true) : AC Tryz.prog 85 [.d (encRs l), factS x, factS y] (.d (.v (.bool (sameKey l x y)))) :=
 AC.plain Tryz.func85 rfl (by decide) rfl (fun w K cs ov hK hr => by
   simp only [RdSs] at hr
   obtain ⟨v, _, rfl, h, v2, _, rfl, h2, v3, _, rfl, h3, rfl⟩ := hr
   obtain ⟨a, cap, rfl, k1⟩ := rels_cut gl hK h
   obtain ⟨a2, cap2, rfl, k2⟩ := fact_cut gx hK h2
   obtain ⟨a3, cap3, rfl, k3⟩ := fact_cut gy hK h3
   exact agreeOnKey_c k1 k2 k3 hx hy)
theorem haveKey_a {l : List Rel} {x y : Fct} (gl : (eSlice eRel).good l) (gx : eFct.good x) (gy : eFct.good y) : AC Tryz.prog 63 [.d (encRs l), factS x, factS y] (.d (.v (.bool (haveKey l x y)))) :=
 AC.plain Tryz.func63 rfl (by decide) rfl (fun w K cs ov hK hr => by
   simp only [RdSs] at hr
   obtain ⟨v, _, rfl, h, v2, _, rfl, h2, v3, _, rfl, h3, rfl⟩ := hr
   obtain ⟨a, cap, rfl, k1⟩ := rels_cut gl hK h
   obtain ⟨a2, cap2, rfl, k2⟩ := fact_cut gx hK h2
   obtain ⟨a3, cap3, rfl, k3⟩ := fact_cut gy hK h3
   exact specHaveSameKey_c k1 k2 k3)
theorem fits_a {l : List Rel} {c : Dcn} (gl : (eSlice eRel).good l) (gc : eDcn.good c) : AC Tryz.prog 114 [.d (encRs l), dcS c] (.d (.v (.bool (fits l c)))) :=
 AC.plain Tryz.func114 rfl (by decide) rfl (fun w K cs ov hK hr => by
   simp only [RdSs] at hr
   obtain ⟨v, _, rfl, h, v2, _, rfl, h2, rfl⟩ := hr
   obtain ⟨a, cap, rfl, k1⟩ := rels_cut gl hK h
   obtain ⟨rfl, k2⟩ := dc_cut gc hK h2
   exact fitsSchema_c k1)
theorem forb_a {c : Dcn} {x y : Fct} (gc : eDcn.good c) (gx : eFct.good x) (gy : eFct.good y) (hx : x.rel = c.r1 → hasCols x c.j1 c.c1) (hy : y.rel = c.r2 → hasCols y c.j2 c.c2) : AC Tryz.prog 115 [dcS c, factS x, factS y] (.d (.v (.bool (forb c x y)))) :=
 AC.plain Tryz.func115 rfl (by decide) rfl (fun w K cs ov hK hr => by
   simp only [RdSs] at hr
   obtain ⟨v, _, rfl, h, v2, _, rfl, h2, v3, _, rfl, h3, rfl⟩ := hr
   obtain ⟨rfl, k1⟩ := dc_cut gc hK h
   obtain ⟨a2, cap2, rfl, k2⟩ := fact_cut gx hK h2
   obtain ⟨a3, cap3, rfl, k3⟩ := fact_cut gy hK h3
   exact isForbidden_c k2 k3 hx hy)
theorem viol_a {d : Dbs} {c : Dcn} (g : eDbs.good d) (gc : eDcn.good c) (i k : Int) : AC Tryz.prog 64 [dbS d, dcS c, .d (.v (.int .i64 i)), .d (.v (.int .i64 k))] (.d (.v (.bool (violates d c i k)))) :=
 AC.plain Tryz.func64 rfl (by decide) rfl (fun w K cs ov hK hr => by
   simp only [RdSs] at hr
   obtain ⟨v, _, rfl, h, v2, _, rfl, h2, v3, _, rfl, h3, v4, _, rfl, h4, rfl⟩ := hr
   obtain ⟨a0, c0, a1, c1, rfl, k1⟩ := db_cut g hK h
   obtain ⟨rfl, k2⟩ := dc_cut gc hK h2
   have := int_cut h3
   subst this
   have := int_cut h4
   subst this
   exact specViolatesConstraint_c k1 k2)
def rowP (P : Nat → Nat → Bool) (a b : Nat) : List Edg := ((List.range b).filter fun k => decide (a < k) && P a k).map fun k : Nat => ⟨(a : Int), (k : Int)⟩
def edgP (n : Nat) (P : Nat → Nat → Bool) (a : Nat) : List Edg := (List.range a).flatMap fun i => rowP P i n
def edgesL (n : Nat) (P : Nat → Nat → Bool) : List Edg := edgP n P n
theorem rowP_step (P : Nat → Nat → Bool) (a b : Nat) (h : a < b) : rowP P a (b + 1) = rowP P a b ++ (if P a b = true then [⟨(a : Int), (b : Int)⟩] else []) := by
 unfold rowP
 rw [List.range_succ, List.filter_append, List.map_append]
 congr 1
 simp only [List.filter_cons, List.filter_nil, h, decide_true, Bool.true_and]
 split <;> rfl
theorem rowP_start (P : Nat → Nat → Bool) (a : Nat) : rowP P a (a + 1) = [] := by
 unfold rowP
 rw [List.filter_eq_nil_iff.2, List.map_nil]
 intro k hk
 have := List.mem_range.1 hk
 simp
 omega
theorem rowP_len (P : Nat → Nat → Bool) (a b : Nat) : (rowP P a b).length ≤ b := by
 unfold rowP
 rw [List.length_map]
 exact Nat.le_trans (List.length_filter_le _ _) (by simp)
theorem edgP_step (n : Nat) (P : Nat → Nat → Bool) (a : Nat) : edgP n P (a + 1) = edgP n P a ++ rowP P a n := by
 unfold edgP
 rw [List.range_succ, List.flatMap_append]
 simp
theorem edgP_len (n : Nat) (P : Nat → Nat → Bool) : ∀ a, (edgP n P a).length ≤ a * n
 | 0 => by simp [edgP]
 | a + 1 => by
   rw [edgP_step, List.length_append, Nat.succ_mul]
   have := edgP_len n P a
   have := rowP_len P a n
   omega
theorem edgesBetween_a {g : FuncId} {caps : List S} (hc : Caps caps) (P : Nat → Nat → Bool) (l : List Fct) (hl : l.length ≤ 14) (hp : ∀ a b (ha : a < l.length) (hb : b < l.length), a < b → AC Tryz.prog g (factS l[a] :: factS l[b] :: caps) (.d (.v (.bool (P a b))))) :
   AC Tryz.prog 83 [.d (encFs l), .f (.func g) [] caps] (.o 0 (encEs (edgesL l.length P))) := by
 refine AC.intro Tryz.func83 rfl (by decide) (by simp [S.res, S.ress]) (by simp [S.os, S.oss]) (by simp [S.wfs, S.wf, hc.wfs]) (by simp [Tryz.f83]) ?_; rw [Tryz.ntmps83]
 repeat (first | refine aq ?_ | refine ap (by rfl : apartB 0 _ _ = true) ?_ | refine ak ?_ | refine ab ?_ | refine al ?_ | ((first | refine ar ?_ | refine ad ty_mix (by kernel_rfl) ?_ | refine ac ?_ | refine ae ?_ | with_reducible refine Later.mk ?_); simp only [evD, evL, iteL, aX, St.said, St.asked, evStep, evOp, evP, St.init, St.app, srcStep, kill, setMany, loadS, fieldS, buildS, toks, Fin, upd_app, Array.isEmpty, reduceLT, reduceAdd, reduceMul, reduceLeDiff, reduceSub, reduceEqDiff, reduceCtorEq, reduceIte, ↓Opt.is, ↓Opt.no, ↓Asks.yes, ↓Asks.no, tyL, encL, asB]))
 refine Ab.weaken (Le.adopt (t := 5) (id := 1) (n := 2) 75 (by omega) (by simp only [evD, evL, iteL, aX, St.said, St.asked, evStep, evOp, evP, St.init, St.app, srcStep, kill, setMany, loadS, fieldS, buildS, toks, Fin, upd_app, Array.isEmpty, reduceLT, reduceAdd, reduceMul, reduceLeDiff, reduceSub, reduceEqDiff, reduceCtorEq, reduceIte, ↓Opt.is, ↓Opt.no, ↓Asks.yes, ↓Asks.no, tyL, encL]) (by simp only [evD, evL, iteL, aX, St.said, St.asked, evStep, evOp, evP, St.init, St.app, srcStep, kill, setMany, loadS, fieldS, buildS, toks, Fin, upd_app, Array.isEmpty, reduceLT, reduceAdd, reduceMul, reduceLeDiff, reduceSub, reduceEqDiff, reduceCtorEq, reduceIte, ↓Opt.is, ↓Opt.no, ↓Asks.yes, ↓Asks.no, tyL, encL])) ?_
 simp only [evD, evL, iteL, aX, St.said, St.asked, evStep, evOp, evP, St.init, St.app, srcStep, kill, setMany, loadS, fieldS, buildS, toks, Fin, upd_app, Array.isEmpty, reduceLT, reduceAdd, reduceMul, reduceLeDiff, reduceSub, reduceEqDiff, reduceCtorEq, reduceIte, ↓Opt.is, ↓Opt.no, ↓Asks.yes, ↓Asks.no, tyL, encL]
 refine Ab.loopI l.length (fun _ => True) (fun a => mkS 39 [(0, .d (.sl (List.map encF l))), (1, .f (.func g) [] caps), (5, .g 1 ((edgP l.length P a).map encE)), (9, .d (.v (.int .i64 (l.length : Int)))), (10, .d (.v (.int .i64 (a : Int))))] [(1, .tip true 75 2 ((edgP l.length P a).map encE))] 80) trivial ?_ ?_
 · ((first | refine Le.mk rfl ?_ ?_ | refine LeTo.mk rfl ?_ ?_) <;> simp only [evD, evL, iteL, aX, St.said, St.asked, evStep, evOp, evP, St.init, St.app, srcStep, kill, setMany, loadS, fieldS, buildS, toks, Fin, upd_app, Array.isEmpty, reduceLT, reduceAdd, reduceMul, reduceLeDiff, reduceSub, reduceEqDiff, reduceCtorEq, reduceIte, ↓Opt.is, ↓Opt.no, ↓Asks.yes, ↓Asks.no, tyL, encL, leL, leD, ne_eq, hc.wfs, edgP, List.range_zero, List.flatMap_nil])
 intro a ha _
 repeat (first | refine aq ?_ | refine ap (by rfl : apartB 0 _ _ = true) ?_ | refine ak ?_ | refine ab ?_ | refine al ?_ | ((first | refine ar ?_ | refine ad ty_mix (by kernel_rfl) ?_ | refine ac ?_ | refine ae ?_ | with_reducible refine Later.mk ?_); simp only [evD, evL, iteL, aX, St.said, St.asked, evStep, evOp, evP, St.init, St.app, srcStep, kill, setMany, loadS, fieldS, buildS, toks, Fin, upd_app, Array.isEmpty, reduceLT, reduceAdd, reduceMul, reduceLeDiff, reduceSub, reduceEqDiff, reduceCtorEq, reduceIte, ↓Opt.is, ↓Opt.no, ↓Asks.yes, ↓Asks.no, tyL, encL, mkS, updl, asB]))
 refine ⟨fun h => ?_, fun h => ?_⟩
 · have h : a < l.length := by simpa using h
   have hw := wrapN h (by omega)
   have hst := edgP_step l.length P a
   have hel := edgP_len l.length P a
   have hel2 : a * l.length ≤ 14 * 14 := Nat.mul_le_mul (by omega) hl
   generalize edgP l.length P a = E at *
   repeat (first | refine aq ?_ | refine ap (by rfl : apartB 0 _ _ = true) ?_ | refine ak ?_ | refine ab ?_ | refine al ?_ | ((first | refine ar ?_ | refine ad ty_mix (by kernel_rfl) ?_ | refine ac ?_ | refine ae ?_ | with_reducible refine Later.mk ?_); simp only [evD, evL, iteL, aX, St.said, St.asked, evStep, evOp, evP, St.init, St.app, srcStep, kill, setMany, loadS, fieldS, buildS, toks, Fin, upd_app, Array.isEmpty, reduceLT, reduceAdd, reduceMul, reduceLeDiff, reduceSub, reduceEqDiff, reduceCtorEq, reduceIte, ↓Opt.is, ↓Opt.no, ↓Asks.yes, ↓Asks.no, tyL, encL, hw, asB]))
   refine Ab.loopI (l.length - (a + 1)) (fun _ => True) (fun j => mkS 39 [(0, .d (.sl (List.map encF l))), (1, .f (.func g) [] caps), (5, .g 1 ((E ++ rowP P a (a + 1 + j)).map encE)), (6, .d (.v (.int .i64 (a : Int)))), (7, .d (.v (.int .i64 ((a + 1 + j : Nat) : Int)))), (9, .d (.v (.int .i64 (l.length : Int)))), (10, .d (.v (.int .i64 (a : Int))))] [(1, .tip true 75 2 ((E ++ rowP P a (a + 1 + j)).map encE))] 400) trivial ?_ ?_
   · ((first | refine Le.mk rfl ?_ ?_ | refine LeTo.mk rfl ?_ ?_) <;> simp only [evD, evL, iteL, aX, St.said, St.asked, evStep, evOp, evP, St.init, St.app, srcStep, kill, setMany, loadS, fieldS, buildS, toks, Fin, upd_app, Array.isEmpty, reduceLT, reduceAdd, reduceMul, reduceLeDiff, reduceSub, reduceEqDiff, reduceCtorEq, reduceIte, ↓Opt.is, ↓Opt.no, ↓Asks.yes, ↓Asks.no, tyL, encL, leL, leD, ne_eq, hc.wfs, Nat.add_zero, rowP_start])
   intro j hj _
   obtain ⟨b, hb⟩ : ∃ b, a + 1 + j = b := ⟨_, rfl⟩
   have hb2 : a + 1 + (j + 1) = b + 1 := by omega
   repeat (first | refine aq ?_ | refine ap (by rfl : apartB 0 _ _ = true) ?_ | refine ak ?_ | refine ab ?_ | refine al ?_ | ((first | refine ar ?_ | refine ad ty_mix (by kernel_rfl) ?_ | refine ac ?_ | refine ae ?_ | with_reducible refine Later.mk ?_); simp only [evD, evL, iteL, aX, St.said, St.asked, evStep, evOp, evP, St.init, St.app, srcStep, kill, setMany, loadS, fieldS, buildS, toks, Fin, upd_app, Array.isEmpty, reduceLT, reduceAdd, reduceMul, reduceLeDiff, reduceSub, reduceEqDiff, reduceCtorEq, reduceIte, ↓Opt.is, ↓Opt.no, ↓Asks.yes, ↓Asks.no, tyL, encL, mkS, updl, hb, asB]))
   refine ⟨fun h2 => ?_, fun h2 => ?_⟩
   · have h2 : b < l.length := by simpa using h2
     have hw2 := wrapN h2 (by omega)
     have hrs := rowP_step P a b (by omega)
     have hrl := rowP_len P a b
     have hpp := hp a b h h2 (by omega)
     repeat (first | refine aq ?_ | refine ap (by rfl : apartB 0 _ _ = true) ?_ | refine ak ?_ | refine ab ?_ | refine al ?_ | ((first | refine ar ?_ | refine ad ty_mix (by kernel_rfl) ?_ | refine ac ?_ | refine ae ?_ | with_reducible refine Later.mk ?_); simp only [evD, evL, iteL, aX, St.said, St.asked, evStep, evOp, evP, St.init, St.app, srcStep, kill, setMany, loadS, fieldS, buildS, toks, Fin, upd_app, Array.isEmpty, reduceLT, reduceAdd, reduceMul, reduceLeDiff, reduceSub, reduceEqDiff, reduceCtorEq, reduceIte, ↓Opt.is, ↓Opt.no, ↓Asks.yes, ↓Asks.no, tyL, encL, getF h, getF h2, hc.argl, hc.readsl, asB]))
     refine ⟨_, hpp, ?_⟩
     try simp only [evD, evL, iteL, aX, St.said, St.asked, evStep, evOp, evP, St.init, St.app, srcStep, kill, setMany, loadS, fieldS, buildS, toks, Fin, upd_app, Array.isEmpty, reduceLT, reduceAdd, reduceMul, reduceLeDiff, reduceSub, reduceEqDiff, reduceCtorEq, reduceIte, ↓Opt.is, ↓Opt.no, ↓Asks.yes, ↓Asks.no, tyL, encL, hc.readsl]
     repeat (first | refine aq ?_ | refine ap (by rfl : apartB 0 _ _ = true) ?_ | refine ak ?_ | refine ab ?_ | refine al ?_ | ((first | refine ar ?_ | refine ad ty_mix (by kernel_rfl) ?_ | refine ac ?_ | refine ae ?_ | with_reducible refine Later.mk ?_); simp only [evD, evL, iteL, aX, St.said, St.asked, evStep, evOp, evP, St.init, St.app, srcStep, kill, setMany, loadS, fieldS, buildS, toks, Fin, upd_app, Array.isEmpty, reduceLT, reduceAdd, reduceMul, reduceLeDiff, reduceSub, reduceEqDiff, reduceCtorEq, reduceIte, ↓Opt.is, ↓Opt.no, ↓Asks.yes, ↓Asks.no, tyL, encL, asB]))
     refine ⟨fun h3 => ?_, fun h3 => ?_⟩
     · rw [if_pos h3] at hrs
       repeat (first | refine aq ?_ | refine ap (by rfl : apartB 0 _ _ = true) ?_ | refine ak ?_ | refine ab ?_ | refine al ?_ | ((first | refine ar ?_ | refine ad ty_mix (by kernel_rfl) ?_ | refine ac ?_ | refine ae ?_ | with_reducible refine Later.mk ?_); simp only [evD, evL, iteL, aX, St.said, St.asked, evStep, evOp, evP, St.init, St.app, srcStep, kill, setMany, loadS, fieldS, buildS, toks, Fin, upd_app, Array.isEmpty, reduceLT, reduceAdd, reduceMul, reduceLeDiff, reduceSub, reduceEqDiff, reduceCtorEq, reduceIte, ↓Opt.is, ↓Opt.no, ↓Asks.yes, ↓Asks.no, tyL, encL, List.length_append, asB]))
       refine ⟨by simp only [maxLen]; omega, by omega, ?_⟩
       repeat (first | refine aq ?_ | refine ap (by rfl : apartB 0 _ _ = true) ?_ | refine ak ?_ | refine ab ?_ | refine al ?_ | ((first | refine ar ?_ | refine ad ty_mix (by kernel_rfl) ?_ | refine ac ?_ | refine ae ?_ | with_reducible refine Later.mk ?_); simp only [evD, evL, iteL, aX, St.said, St.asked, evStep, evOp, evP, St.init, St.app, srcStep, kill, setMany, loadS, fieldS, buildS, toks, Fin, upd_app, Array.isEmpty, reduceLT, reduceAdd, reduceMul, reduceLeDiff, reduceSub, reduceEqDiff, reduceCtorEq, reduceIte, ↓Opt.is, ↓Opt.no, ↓Asks.yes, ↓Asks.no, tyL, encL, hw2, asB]))
       refine ⟨by omega, ?_⟩
       ((first | refine Le.mk rfl ?_ ?_ | refine LeTo.mk rfl ?_ ?_) <;> simp only [evD, evL, iteL, aX, St.said, St.asked, evStep, evOp, evP, St.init, St.app, srcStep, kill, setMany, loadS, fieldS, buildS, toks, Fin, upd_app, Array.isEmpty, reduceLT, reduceAdd, reduceMul, reduceLeDiff, reduceSub, reduceEqDiff, reduceCtorEq, reduceIte, ↓Opt.is, ↓Opt.no, ↓Asks.yes, ↓Asks.no, tyL, encL, leL, leD, ne_eq, hc.wfs, hb2, hrs, List.map_append, List.append_assoc])
     · rw [if_neg (by rw [h3]; exact Bool.false_ne_true), List.append_nil] at hrs
       repeat (first | refine aq ?_ | refine ap (by rfl : apartB 0 _ _ = true) ?_ | refine ak ?_ | refine ab ?_ | refine al ?_ | ((first | refine ar ?_ | refine ad ty_mix (by kernel_rfl) ?_ | refine ac ?_ | refine ae ?_ | with_reducible refine Later.mk ?_); simp only [evD, evL, iteL, aX, St.said, St.asked, evStep, evOp, evP, St.init, St.app, srcStep, kill, setMany, loadS, fieldS, buildS, toks, Fin, upd_app, Array.isEmpty, reduceLT, reduceAdd, reduceMul, reduceLeDiff, reduceSub, reduceEqDiff, reduceCtorEq, reduceIte, ↓Opt.is, ↓Opt.no, ↓Asks.yes, ↓Asks.no, tyL, encL, hw2, asB]))
       refine ⟨by omega, ?_⟩
       ((first | refine Le.mk rfl ?_ ?_ | refine LeTo.mk rfl ?_ ?_) <;> simp only [evD, evL, iteL, aX, St.said, St.asked, evStep, evOp, evP, St.init, St.app, srcStep, kill, setMany, loadS, fieldS, buildS, toks, Fin, upd_app, Array.isEmpty, reduceLT, reduceAdd, reduceMul, reduceLeDiff, reduceSub, reduceEqDiff, reduceCtorEq, reduceIte, ↓Opt.is, ↓Opt.no, ↓Asks.yes, ↓Asks.no, tyL, encL, leL, leD, ne_eq, hc.wfs, hb2, hrs])
   · have h2 : b = l.length := by have := of_decide_eq_false h2; omega
     repeat (first | refine aq ?_ | refine ap (by rfl : apartB 0 _ _ = true) ?_ | refine ak ?_ | refine ab ?_ | refine al ?_ | ((first | refine ar ?_ | refine ad ty_mix (by kernel_rfl) ?_ | refine ac ?_ | refine ae ?_ | with_reducible refine Later.mk ?_); simp only [evD, evL, iteL, aX, St.said, St.asked, evStep, evOp, evP, St.init, St.app, srcStep, kill, setMany, loadS, fieldS, buildS, toks, Fin, upd_app, Array.isEmpty, reduceLT, reduceAdd, reduceMul, reduceLeDiff, reduceSub, reduceEqDiff, reduceCtorEq, reduceIte, ↓Opt.is, ↓Opt.no, ↓Asks.yes, ↓Asks.no, tyL, encL, hw, asB]))
     refine ⟨h, ?_⟩
     ((first | refine Le.mk rfl ?_ ?_ | refine LeTo.mk rfl ?_ ?_) <;> simp only [evD, evL, iteL, aX, St.said, St.asked, evStep, evOp, evP, St.init, St.app, srcStep, kill, setMany, loadS, fieldS, buildS, toks, Fin, upd_app, Array.isEmpty, reduceLT, reduceAdd, reduceMul, reduceLeDiff, reduceSub, reduceEqDiff, reduceCtorEq, reduceIte, ↓Opt.is, ↓Opt.no, ↓Asks.yes, ↓Asks.no, tyL, encL, leL, leD, ne_eq, hc.wfs, hst, h2])
 · have h : a = l.length := by have := of_decide_eq_false h; omega
   subst h
   repeat (first | refine aq ?_ | refine ap (by rfl : apartB 0 _ _ = true) ?_ | refine ak ?_ | refine ab ?_ | refine al ?_ | ((first | refine ar ?_ | refine ad ty_mix (by kernel_rfl) ?_ | refine ac ?_ | refine ae ?_ | with_reducible refine Later.mk ?_); simp only [evD, evL, iteL, aX, St.said, St.asked, evStep, evOp, evP, St.init, St.app, srcStep, kill, setMany, loadS, fieldS, buildS, toks, Fin, upd_app, Array.isEmpty, reduceLT, reduceAdd, reduceMul, reduceLeDiff, reduceSub, reduceEqDiff, reduceCtorEq, reduceIte, ↓Opt.is, ↓Opt.no, ↓Asks.yes, ↓Asks.no, tyL, encL, asB]))
   refine Ab.ret ?_
   simp only [evD, evL, iteL, aX, St.said, St.asked, evStep, evOp, evP, St.init, St.app, srcStep, kill, setMany, loadS, fieldS, buildS, toks, Fin, upd_app, Array.isEmpty, reduceLT, reduceAdd, reduceMul, reduceLeDiff, reduceSub, reduceEqDiff, reduceCtorEq, reduceIte, ↓Opt.is, ↓Opt.no, ↓Asks.yes, ↓Asks.no, tyL, List.nodup_cons, encEs, edgesL, Tryz.f83]
   exact ⟨_, _, rfl⟩
theorem getC {l : List Dcn} {i : Nat} (h : i < l.length) : (l.map encC)[i]? = some (encC l[i]) := by simp [h]
def confP (d : Dbs) (L : List Dcn) (a b : Nat) : Bool := keyR d a b || L.any fun c => violates d c a b || violates d c b a
def conflL (d : Dbs) (L : List Dcn) : List Edg := if validDb d then edgesL d.facts.length (confP d L) else []
theorem viol_eq {d : Dbs} (hv : validDb d = true) {a b : Nat} (ha : a < d.facts.length) (hb : b < d.facts.length) (hab : a ≠ b) (c : Dcn) : violates d c a b = (fits d.rels c && forb c d.facts[a] d.facts[b]) := by
 unfold violates validCon forbAt
 have h1 : inB (a : Int) 0 ((d.facts.length : Int) - 1) = true := by unfold inB; simp; omega
 have h2 : inB (b : Int) 0 ((d.facts.length : Int) - 1) = true := by unfold inB; simp; omega
 have h3 : decide ((a : Int) = (b : Int)) = false := by simp; omega
 rw [hv, h1, h2, h3, Int.toNat_natCast, Int.toNat_natCast, List.getElem?_eq_getElem ha, List.getElem?_eq_getElem hb]
 simp
theorem facts_good {d : Dbs} (g : eDbs.good d) {a : Nat} (h : a < d.facts.length) : eFct.good d.facts[a] := g.2.2 _ (List.getElem_mem h)
theorem violateAny_a {d : Dbs} (g : eDbs.good d) (hv : validDb d = true) {L : List Dcn} (gL : (eSlice eDcn).good L) (hL : L.length ≤ 1048576) {a b : Nat} (ha : a < d.facts.length) (hb : b < d.facts.length) (hab : a ≠ b) :
   AC Tryz.prog 86 [.d (encRs d.rels), .d (encCs L), factS d.facts[a], factS d.facts[b]] (.d (.v (.bool (L.any fun c => violates d c a b || violates d c b a)))) := by
 have hva : ∀ c, (violates d c a b || violates d c b a) = (fits d.rels c && (forb c d.facts[a] d.facts[b] || forb c d.facts[b] d.facts[a])) := by
   intro c
   rw [viol_eq hv ha hb hab, viol_eq hv hb ha (fun e => hab e.symm)]
   cases fits d.rels c <;> simp
 have hfun : (fun c => violates d c a b || violates d c b a) = fun c => fits d.rels c && (forb c d.facts[a] d.facts[b] || forb c d.facts[b] d.facts[a]) := funext hva
 rw [hfun]
 refine AC.intro Tryz.func86 rfl (by decide) (by simp [S.res, S.ress]) (by simp [S.os, S.oss]) (by simp [S.wfs, S.wf, factS]) (by simp [Tryz.f86]) ?_; rw [Tryz.ntmps86]
 repeat (first | refine aq ?_ | refine ap (by rfl : apartB 0 _ _ = true) ?_ | refine ak ?_ | refine ab ?_ | refine al ?_ | ((first | refine ar ?_ | refine ad ty_mix (by kernel_rfl) ?_ | refine ac ?_ | refine ae ?_ | with_reducible refine Later.mk ?_); simp only [evD, evL, iteL, aX, St.said, St.asked, evStep, evOp, evP, St.init, St.app, srcStep, kill, setMany, loadS, fieldS, buildS, toks, Fin, upd_app, Array.isEmpty, reduceLT, reduceAdd, reduceMul, reduceLeDiff, reduceSub, reduceEqDiff, reduceCtorEq, reduceIte, ↓Opt.is, ↓Opt.no, ↓Asks.yes, ↓Asks.no, tyL, encL, factS, asB]))
 have gx := facts_good g ha
 have gy := facts_good g hb
 refine Ab.loopI L.length (fun i => ∀ j (hj : j < L.length), j < i → (fits d.rels L[j] && (forb L[j] d.facts[a] d.facts[b] || forb L[j] d.facts[b] d.facts[a])) = false) (fun i => mkS 33 [(0, .d (.sl (List.map encR d.rels))), (6, .p 0 0), (7, .p 16 0), (11, .d (.sl (List.map encC L))), (12, .d (.v (.int .i64 (L.length : Int)))), (13, .d (.v (.int .i64 (i : Int))))] [(0, .box [.d (.v (.int .i64 d.facts[a].rel)), .d (.sl (List.map encI d.facts[a].vals))]), (16, .box [.d (.v (.int .i64 d.facts[b].rel)), .d (.sl (List.map encI d.facts[b].vals))])] 96) (fun j _ h => by omega) ?_ ?_
 · ((first | refine Le.mk rfl ?_ ?_ | refine LeTo.mk rfl ?_ ?_) <;> simp only [evD, evL, iteL, aX, St.said, St.asked, evStep, evOp, evP, St.init, St.app, srcStep, kill, setMany, loadS, fieldS, buildS, toks, Fin, upd_app, Array.isEmpty, reduceLT, reduceAdd, reduceMul, reduceLeDiff, reduceSub, reduceEqDiff, reduceCtorEq, reduceIte, ↓Opt.is, ↓Opt.no, ↓Asks.yes, ↓Asks.no, tyL, encL, leL, leD, ne_eq])
 intro i hi hI
 repeat (first | refine aq ?_ | refine ap (by rfl : apartB 0 _ _ = true) ?_ | refine ak ?_ | refine ab ?_ | refine al ?_ | ((first | refine ar ?_ | refine ad ty_mix (by kernel_rfl) ?_ | refine ac ?_ | refine ae ?_ | with_reducible refine Later.mk ?_); simp only [evD, evL, iteL, aX, St.said, St.asked, evStep, evOp, evP, St.init, St.app, srcStep, kill, setMany, loadS, fieldS, buildS, toks, Fin, upd_app, Array.isEmpty, reduceLT, reduceAdd, reduceMul, reduceLeDiff, reduceSub, reduceEqDiff, reduceCtorEq, reduceIte, ↓Opt.is, ↓Opt.no, ↓Asks.yes, ↓Asks.no, tyL, encL, mkS, updl, asB]))
 refine ⟨fun h => ?_, fun h => ?_⟩
 · have h : i < L.length := by simpa using h
   have hw := wrapN h (by omega)
   have gc := gL.2 _ (List.getElem_mem h)
   have hf := fits_a (c := L[i]) g.1 gc
   have go : (fits d.rels L[i] && (forb L[i] d.facts[a] d.facts[b] || forb L[i] d.facts[b] d.facts[a])) = false → ∀ j (hj : j < L.length), j < i + 1 → (fits d.rels L[j] && (forb L[j] d.facts[a] d.facts[b] || forb L[j] d.facts[b] d.facts[a])) = false := fun h0 j hj hji => by
     by_cases e : j = i
     · subst e; exact h0
     · exact hI j hj (by omega)
   have yes : (fits d.rels L[i] && (forb L[i] d.facts[a] d.facts[b] || forb L[i] d.facts[b] d.facts[a])) = true → (L.any fun c => fits d.rels c && (forb c d.facts[a] d.facts[b] || forb c d.facts[b] d.facts[a])) = true := fun h0 => List.any_eq_true.2 ⟨L[i], List.getElem_mem h, h0⟩
   rcases Bool.eq_false_or_eq_true (fits d.rels L[i]) with hd | hd <;> rw [hd] at hf go yes
   · have hvc : validCon d L[i] = true := by unfold validCon; rw [hv, hd]; rfl
     have h1 := con_cols hvc a ha
     have h2 := con_cols hvc b hb
     have f1 := forb_a gc gx gy h1.1 h2.2
     have f2 := forb_a gc gy gx h2.1 h1.2
     rcases Bool.eq_false_or_eq_true (forb L[i] d.facts[a] d.facts[b]) with hd1 | hd1 <;> rw [hd1] at f1 go yes
     · repeat (first | refine aq ?_ | refine ap (by rfl : apartB 0 _ _ = true) ?_ | refine ak ?_ | refine ab ?_ | refine al ?_ | ((first | refine ar ?_ | refine ad ty_mix (by kernel_rfl) ?_ | refine ac ?_ | refine ae ?_ | with_reducible refine Later.mk ?_); simp only [evD, evL, iteL, aX, St.said, St.asked, evStep, evOp, evP, St.init, St.app, srcStep, kill, setMany, loadS, fieldS, buildS, toks, Fin, upd_app, Array.isEmpty, reduceLT, reduceAdd, reduceMul, reduceLeDiff, reduceSub, reduceEqDiff, reduceCtorEq, reduceIte, ↓Opt.is, ↓Opt.no, ↓Asks.yes, ↓Asks.no, tyL, encL, getC h, asB]))
       refine ⟨_, hf, ?_⟩; (repeat (first | refine ap (by rfl : apartB 0 _ _ = true) ?_ | refine ap (by simp [osL, D.flat]) ?_)); repeat (first | refine aq ?_ | refine ap (by rfl : apartB 0 _ _ = true) ?_ | refine ak ?_ | refine ab ?_ | refine al ?_ | ((first | refine ar ?_ | refine ad ty_mix (by kernel_rfl) ?_ | refine ac ?_ | refine ae ?_ | with_reducible refine Later.mk ?_); simp only [evD, evL, iteL, aX, St.said, St.asked, evStep, evOp, evP, St.init, St.app, srcStep, kill, setMany, loadS, fieldS, buildS, toks, Fin, upd_app, Array.isEmpty, reduceLT, reduceAdd, reduceMul, reduceLeDiff, reduceSub, reduceEqDiff, reduceCtorEq, reduceIte, ↓Opt.is, ↓Opt.no, ↓Asks.yes, ↓Asks.no, tyL, encL, asB]))
       refine ⟨_, f1, ?_⟩; (repeat (first | refine ap (by rfl : apartB 0 _ _ = true) ?_ | refine ap (by simp [osL, D.flat]) ?_)); repeat (first | refine aq ?_ | refine ap (by rfl : apartB 0 _ _ = true) ?_ | refine ak ?_ | refine ab ?_ | refine al ?_ | ((first | refine ar ?_ | refine ad ty_mix (by kernel_rfl) ?_ | refine ac ?_ | refine ae ?_ | with_reducible refine Later.mk ?_); simp only [evD, evL, iteL, aX, St.said, St.asked, evStep, evOp, evP, St.init, St.app, srcStep, kill, setMany, loadS, fieldS, buildS, toks, Fin, upd_app, Array.isEmpty, reduceLT, reduceAdd, reduceMul, reduceLeDiff, reduceSub, reduceEqDiff, reduceCtorEq, reduceIte, ↓Opt.is, ↓Opt.no, ↓Asks.yes, ↓Asks.no, tyL, encL, asB]))
       refine Ab.ret ?_; simp only [evD, evL, iteL, aX, St.said, St.asked, evStep, evOp, evP, St.init, St.app, srcStep, kill, setMany, loadS, fieldS, buildS, toks, Fin, upd_app, Array.isEmpty, reduceLT, reduceAdd, reduceMul, reduceLeDiff, reduceSub, reduceEqDiff, reduceCtorEq, reduceIte, ↓Opt.is, ↓Opt.no, ↓Asks.yes, ↓Asks.no, tyL, List.nodup_cons, encL, Tryz.f86, yes rfl]
     · rcases Bool.eq_false_or_eq_true (forb L[i] d.facts[b] d.facts[a]) with hd2 | hd2 <;> rw [hd2] at f2 go yes
       · repeat (first | refine aq ?_ | refine ap (by rfl : apartB 0 _ _ = true) ?_ | refine ak ?_ | refine ab ?_ | refine al ?_ | ((first | refine ar ?_ | refine ad ty_mix (by kernel_rfl) ?_ | refine ac ?_ | refine ae ?_ | with_reducible refine Later.mk ?_); simp only [evD, evL, iteL, aX, St.said, St.asked, evStep, evOp, evP, St.init, St.app, srcStep, kill, setMany, loadS, fieldS, buildS, toks, Fin, upd_app, Array.isEmpty, reduceLT, reduceAdd, reduceMul, reduceLeDiff, reduceSub, reduceEqDiff, reduceCtorEq, reduceIte, ↓Opt.is, ↓Opt.no, ↓Asks.yes, ↓Asks.no, tyL, encL, getC h, asB]))
         refine ⟨_, hf, ?_⟩; (repeat (first | refine ap (by rfl : apartB 0 _ _ = true) ?_ | refine ap (by simp [osL, D.flat]) ?_)); repeat (first | refine aq ?_ | refine ap (by rfl : apartB 0 _ _ = true) ?_ | refine ak ?_ | refine ab ?_ | refine al ?_ | ((first | refine ar ?_ | refine ad ty_mix (by kernel_rfl) ?_ | refine ac ?_ | refine ae ?_ | with_reducible refine Later.mk ?_); simp only [evD, evL, iteL, aX, St.said, St.asked, evStep, evOp, evP, St.init, St.app, srcStep, kill, setMany, loadS, fieldS, buildS, toks, Fin, upd_app, Array.isEmpty, reduceLT, reduceAdd, reduceMul, reduceLeDiff, reduceSub, reduceEqDiff, reduceCtorEq, reduceIte, ↓Opt.is, ↓Opt.no, ↓Asks.yes, ↓Asks.no, tyL, encL, asB]))
         refine ⟨_, f1, ?_⟩; (repeat (first | refine ap (by rfl : apartB 0 _ _ = true) ?_ | refine ap (by simp [osL, D.flat]) ?_)); repeat (first | refine aq ?_ | refine ap (by rfl : apartB 0 _ _ = true) ?_ | refine ak ?_ | refine ab ?_ | refine al ?_ | ((first | refine ar ?_ | refine ad ty_mix (by kernel_rfl) ?_ | refine ac ?_ | refine ae ?_ | with_reducible refine Later.mk ?_); simp only [evD, evL, iteL, aX, St.said, St.asked, evStep, evOp, evP, St.init, St.app, srcStep, kill, setMany, loadS, fieldS, buildS, toks, Fin, upd_app, Array.isEmpty, reduceLT, reduceAdd, reduceMul, reduceLeDiff, reduceSub, reduceEqDiff, reduceCtorEq, reduceIte, ↓Opt.is, ↓Opt.no, ↓Asks.yes, ↓Asks.no, tyL, encL, asB]))
         refine ⟨_, f2, ?_⟩; (repeat (first | refine ap (by rfl : apartB 0 _ _ = true) ?_ | refine ap (by simp [osL, D.flat]) ?_)); repeat (first | refine aq ?_ | refine ap (by rfl : apartB 0 _ _ = true) ?_ | refine ak ?_ | refine ab ?_ | refine al ?_ | ((first | refine ar ?_ | refine ad ty_mix (by kernel_rfl) ?_ | refine ac ?_ | refine ae ?_ | with_reducible refine Later.mk ?_); simp only [evD, evL, iteL, aX, St.said, St.asked, evStep, evOp, evP, St.init, St.app, srcStep, kill, setMany, loadS, fieldS, buildS, toks, Fin, upd_app, Array.isEmpty, reduceLT, reduceAdd, reduceMul, reduceLeDiff, reduceSub, reduceEqDiff, reduceCtorEq, reduceIte, ↓Opt.is, ↓Opt.no, ↓Asks.yes, ↓Asks.no, tyL, encL, asB]))
         refine Ab.ret ?_; simp only [evD, evL, iteL, aX, St.said, St.asked, evStep, evOp, evP, St.init, St.app, srcStep, kill, setMany, loadS, fieldS, buildS, toks, Fin, upd_app, Array.isEmpty, reduceLT, reduceAdd, reduceMul, reduceLeDiff, reduceSub, reduceEqDiff, reduceCtorEq, reduceIte, ↓Opt.is, ↓Opt.no, ↓Asks.yes, ↓Asks.no, tyL, List.nodup_cons, encL, Tryz.f86, yes rfl]
       · repeat (first | refine aq ?_ | refine ap (by rfl : apartB 0 _ _ = true) ?_ | refine ak ?_ | refine ab ?_ | refine al ?_ | ((first | refine ar ?_ | refine ad ty_mix (by kernel_rfl) ?_ | refine ac ?_ | refine ae ?_ | with_reducible refine Later.mk ?_); simp only [evD, evL, iteL, aX, St.said, St.asked, evStep, evOp, evP, St.init, St.app, srcStep, kill, setMany, loadS, fieldS, buildS, toks, Fin, upd_app, Array.isEmpty, reduceLT, reduceAdd, reduceMul, reduceLeDiff, reduceSub, reduceEqDiff, reduceCtorEq, reduceIte, ↓Opt.is, ↓Opt.no, ↓Asks.yes, ↓Asks.no, tyL, encL, getC h, asB]))
         refine ⟨_, hf, ?_⟩; (repeat (first | refine ap (by rfl : apartB 0 _ _ = true) ?_ | refine ap (by simp [osL, D.flat]) ?_)); repeat (first | refine aq ?_ | refine ap (by rfl : apartB 0 _ _ = true) ?_ | refine ak ?_ | refine ab ?_ | refine al ?_ | ((first | refine ar ?_ | refine ad ty_mix (by kernel_rfl) ?_ | refine ac ?_ | refine ae ?_ | with_reducible refine Later.mk ?_); simp only [evD, evL, iteL, aX, St.said, St.asked, evStep, evOp, evP, St.init, St.app, srcStep, kill, setMany, loadS, fieldS, buildS, toks, Fin, upd_app, Array.isEmpty, reduceLT, reduceAdd, reduceMul, reduceLeDiff, reduceSub, reduceEqDiff, reduceCtorEq, reduceIte, ↓Opt.is, ↓Opt.no, ↓Asks.yes, ↓Asks.no, tyL, encL, asB]))
         refine ⟨_, f1, ?_⟩; (repeat (first | refine ap (by rfl : apartB 0 _ _ = true) ?_ | refine ap (by simp [osL, D.flat]) ?_)); repeat (first | refine aq ?_ | refine ap (by rfl : apartB 0 _ _ = true) ?_ | refine ak ?_ | refine ab ?_ | refine al ?_ | ((first | refine ar ?_ | refine ad ty_mix (by kernel_rfl) ?_ | refine ac ?_ | refine ae ?_ | with_reducible refine Later.mk ?_); simp only [evD, evL, iteL, aX, St.said, St.asked, evStep, evOp, evP, St.init, St.app, srcStep, kill, setMany, loadS, fieldS, buildS, toks, Fin, upd_app, Array.isEmpty, reduceLT, reduceAdd, reduceMul, reduceLeDiff, reduceSub, reduceEqDiff, reduceCtorEq, reduceIte, ↓Opt.is, ↓Opt.no, ↓Asks.yes, ↓Asks.no, tyL, encL, asB]))
         refine ⟨_, f2, ?_⟩; (repeat (first | refine ap (by rfl : apartB 0 _ _ = true) ?_ | refine ap (by simp [osL, D.flat]) ?_)); repeat (first | refine aq ?_ | refine ap (by rfl : apartB 0 _ _ = true) ?_ | refine ak ?_ | refine ab ?_ | refine al ?_ | ((first | refine ar ?_ | refine ad ty_mix (by kernel_rfl) ?_ | refine ac ?_ | refine ae ?_ | with_reducible refine Later.mk ?_); simp only [evD, evL, iteL, aX, St.said, St.asked, evStep, evOp, evP, St.init, St.app, srcStep, kill, setMany, loadS, fieldS, buildS, toks, Fin, upd_app, Array.isEmpty, reduceLT, reduceAdd, reduceMul, reduceLeDiff, reduceSub, reduceEqDiff, reduceCtorEq, reduceIte, ↓Opt.is, ↓Opt.no, ↓Asks.yes, ↓Asks.no, tyL, encL, hw, asB]))
         refine ⟨h, go rfl, ?_⟩
         ((first | refine Le.mk rfl ?_ ?_ | refine LeTo.mk rfl ?_ ?_) <;> simp only [evD, evL, iteL, aX, St.said, St.asked, evStep, evOp, evP, St.init, St.app, srcStep, kill, setMany, loadS, fieldS, buildS, toks, Fin, upd_app, Array.isEmpty, reduceLT, reduceAdd, reduceMul, reduceLeDiff, reduceSub, reduceEqDiff, reduceCtorEq, reduceIte, ↓Opt.is, ↓Opt.no, ↓Asks.yes, ↓Asks.no, tyL, encL, leL, leD, ne_eq])
   · repeat (first | refine aq ?_ | refine ap (by rfl : apartB 0 _ _ = true) ?_ | refine ak ?_ | refine ab ?_ | refine al ?_ | ((first | refine ar ?_ | refine ad ty_mix (by kernel_rfl) ?_ | refine ac ?_ | refine ae ?_ | with_reducible refine Later.mk ?_); simp only [evD, evL, iteL, aX, St.said, St.asked, evStep, evOp, evP, St.init, St.app, srcStep, kill, setMany, loadS, fieldS, buildS, toks, Fin, upd_app, Array.isEmpty, reduceLT, reduceAdd, reduceMul, reduceLeDiff, reduceSub, reduceEqDiff, reduceCtorEq, reduceIte, ↓Opt.is, ↓Opt.no, ↓Asks.yes, ↓Asks.no, tyL, encL, getC h, asB]))
     refine ⟨_, hf, ?_⟩; (repeat (first | refine ap (by rfl : apartB 0 _ _ = true) ?_ | refine ap (by simp [osL, D.flat]) ?_)); repeat (first | refine aq ?_ | refine ap (by rfl : apartB 0 _ _ = true) ?_ | refine ak ?_ | refine ab ?_ | refine al ?_ | ((first | refine ar ?_ | refine ad ty_mix (by kernel_rfl) ?_ | refine ac ?_ | refine ae ?_ | with_reducible refine Later.mk ?_); simp only [evD, evL, iteL, aX, St.said, St.asked, evStep, evOp, evP, St.init, St.app, srcStep, kill, setMany, loadS, fieldS, buildS, toks, Fin, upd_app, Array.isEmpty, reduceLT, reduceAdd, reduceMul, reduceLeDiff, reduceSub, reduceEqDiff, reduceCtorEq, reduceIte, ↓Opt.is, ↓Opt.no, ↓Asks.yes, ↓Asks.no, tyL, encL, hw, asB]))
     refine ⟨h, go rfl, ?_⟩
     ((first | refine Le.mk rfl ?_ ?_ | refine LeTo.mk rfl ?_ ?_) <;> simp only [evD, evL, iteL, aX, St.said, St.asked, evStep, evOp, evP, St.init, St.app, srcStep, kill, setMany, loadS, fieldS, buildS, toks, Fin, upd_app, Array.isEmpty, reduceLT, reduceAdd, reduceMul, reduceLeDiff, reduceSub, reduceEqDiff, reduceCtorEq, reduceIte, ↓Opt.is, ↓Opt.no, ↓Asks.yes, ↓Asks.no, tyL, encL, leL, leD, ne_eq])
 · have h : i = L.length := by have := of_decide_eq_false h; omega
   subst h
   have e : (L.any fun c => fits d.rels c && (forb c d.facts[a] d.facts[b] || forb c d.facts[b] d.facts[a])) = false := by
     rw [List.any_eq_false]
     intro c hc
     obtain ⟨j, hj, rfl⟩ := List.getElem_of_mem hc
     rw [hI j hj hj]
     exact Bool.false_ne_true
   repeat (first | refine aq ?_ | refine ap (by rfl : apartB 0 _ _ = true) ?_ | refine ak ?_ | refine ab ?_ | refine al ?_ | ((first | refine ar ?_ | refine ad ty_mix (by kernel_rfl) ?_ | refine ac ?_ | refine ae ?_ | with_reducible refine Later.mk ?_); simp only [evD, evL, iteL, aX, St.said, St.asked, evStep, evOp, evP, St.init, St.app, srcStep, kill, setMany, loadS, fieldS, buildS, toks, Fin, upd_app, Array.isEmpty, reduceLT, reduceAdd, reduceMul, reduceLeDiff, reduceSub, reduceEqDiff, reduceCtorEq, reduceIte, ↓Opt.is, ↓Opt.no, ↓Asks.yes, ↓Asks.no, tyL, encL, asB]))
   refine Ab.ret ?_; simp only [evD, evL, iteL, aX, St.said, St.asked, evStep, evOp, evP, St.init, St.app, srcStep, kill, setMany, loadS, fieldS, buildS, toks, Fin, upd_app, Array.isEmpty, reduceLT, reduceAdd, reduceMul, reduceLeDiff, reduceSub, reduceEqDiff, reduceCtorEq, reduceIte, ↓Opt.is, ↓Opt.no, ↓Asks.yes, ↓Asks.no, tyL, List.nodup_cons, encL, Tryz.f86, e]
theorem confl_a {d : Dbs} (g : eDbs.good d) (hv : validDb d = true) {L : List Dcn} (gL : (eSlice eDcn).good L) (hL : L.length ≤ 1048576) {a b : Nat} (ha : a < d.facts.length) (hb : b < d.facts.length) (hab : a ≠ b) :
   AC Tryz.prog 84 [factS d.facts[a], factS d.facts[b], .e [encRs d.rels, encFs d.facts] 0, .e [encCs L] 0] (.d (.v (.bool (confP d L a b)))) := by
 have h1 := agreeOnKey_a g.1 (facts_good g ha) (facts_good g hb) (validDb_fact hv a ha) (validDb_fact hv b hb)
 rw [← keyR_at ha hb] at h1
 have h2 := violateAny_a g hv gL hL ha hb hab
 unfold confP
 refine AC.intro Tryz.func84 rfl (by decide) (by simp [S.res, S.ress]) (by simp [S.os, S.oss]) (by simp [S.wfs, S.wf, factS]) (by simp [Tryz.f84]) ?_; rw [Tryz.ntmps84]
 repeat (first | refine aq ?_ | refine ap (by rfl : apartB 0 _ _ = true) ?_ | refine ak ?_ | refine ab ?_ | refine al ?_ | ((first | refine ar ?_ | refine ad ty_mix (by kernel_rfl) ?_ | refine ac ?_ | refine ae ?_ | with_reducible refine Later.mk ?_); simp only [evD, evL, iteL, aX, St.said, St.asked, evStep, evOp, evP, St.init, St.app, srcStep, kill, setMany, loadS, fieldS, buildS, toks, Fin, upd_app, Array.isEmpty, reduceLT, reduceAdd, reduceMul, reduceLeDiff, reduceSub, reduceEqDiff, reduceCtorEq, reduceIte, ↓Opt.is, ↓Opt.no, ↓Asks.yes, ↓Asks.no, tyL, encL, factS, asB]))
 rcases Bool.eq_false_or_eq_true (keyR d a b) with hd | hd <;> rw [hd] at h1 ⊢
 · refine ⟨_, h1, ?_⟩; (repeat (first | refine ap (by rfl : apartB 0 _ _ = true) ?_ | refine ap (by simp [osL, D.flat]) ?_)); repeat (first | refine aq ?_ | refine ap (by rfl : apartB 0 _ _ = true) ?_ | refine ak ?_ | refine ab ?_ | refine al ?_ | ((first | refine ar ?_ | refine ad ty_mix (by kernel_rfl) ?_ | refine ac ?_ | refine ae ?_ | with_reducible refine Later.mk ?_); simp only [evD, evL, iteL, aX, St.said, St.asked, evStep, evOp, evP, St.init, St.app, srcStep, kill, setMany, loadS, fieldS, buildS, toks, Fin, upd_app, Array.isEmpty, reduceLT, reduceAdd, reduceMul, reduceLeDiff, reduceSub, reduceEqDiff, reduceCtorEq, reduceIte, ↓Opt.is, ↓Opt.no, ↓Asks.yes, ↓Asks.no, tyL, encL, asB]))
   refine Ab.ret ?_; simp only [evD, evL, iteL, aX, St.said, St.asked, evStep, evOp, evP, St.init, St.app, srcStep, kill, setMany, loadS, fieldS, buildS, toks, Fin, upd_app, Array.isEmpty, reduceLT, reduceAdd, reduceMul, reduceLeDiff, reduceSub, reduceEqDiff, reduceCtorEq, reduceIte, ↓Opt.is, ↓Opt.no, ↓Asks.yes, ↓Asks.no, tyL, List.nodup_cons, encL, Tryz.f84, Bool.true_or]
 · refine ⟨_, h1, ?_⟩; (repeat (first | refine ap (by rfl : apartB 0 _ _ = true) ?_ | refine ap (by simp [osL, D.flat]) ?_)); repeat (first | refine aq ?_ | refine ap (by rfl : apartB 0 _ _ = true) ?_ | refine ak ?_ | refine ab ?_ | refine al ?_ | ((first | refine ar ?_ | refine ad ty_mix (by kernel_rfl) ?_ | refine ac ?_ | refine ae ?_ | with_reducible refine Later.mk ?_); simp only [evD, evL, iteL, aX, St.said, St.asked, evStep, evOp, evP, St.init, St.app, srcStep, kill, setMany, loadS, fieldS, buildS, toks, Fin, upd_app, Array.isEmpty, reduceLT, reduceAdd, reduceMul, reduceLeDiff, reduceSub, reduceEqDiff, reduceCtorEq, reduceIte, ↓Opt.is, ↓Opt.no, ↓Asks.yes, ↓Asks.no, tyL, encL, asB]))
   refine ⟨_, h2, ?_⟩; (repeat (first | refine ap (by rfl : apartB 0 _ _ = true) ?_ | refine ap (by simp [osL, D.flat]) ?_)); repeat (first | refine aq ?_ | refine ap (by rfl : apartB 0 _ _ = true) ?_ | refine ak ?_ | refine ab ?_ | refine al ?_ | ((first | refine ar ?_ | refine ad ty_mix (by kernel_rfl) ?_ | refine ac ?_ | refine ae ?_ | with_reducible refine Later.mk ?_); simp only [evD, evL, iteL, aX, St.said, St.asked, evStep, evOp, evP, St.init, St.app, srcStep, kill, setMany, loadS, fieldS, buildS, toks, Fin, upd_app, Array.isEmpty, reduceLT, reduceAdd, reduceMul, reduceLeDiff, reduceSub, reduceEqDiff, reduceCtorEq, reduceIte, ↓Opt.is, ↓Opt.no, ↓Asks.yes, ↓Asks.no, tyL, encL, asB]))
   refine Ab.ret ?_; simp only [evD, evL, iteL, aX, St.said, St.asked, evStep, evOp, evP, St.init, St.app, srcStep, kill, setMany, loadS, fieldS, buildS, toks, Fin, upd_app, Array.isEmpty, reduceLT, reduceAdd, reduceMul, reduceLeDiff, reduceSub, reduceEqDiff, reduceCtorEq, reduceIte, ↓Opt.is, ↓Opt.no, ↓Asks.yes, ↓Asks.no, tyL, List.nodup_cons, encL, Tryz.f84, Bool.false_or]
theorem implConflictEdges_a {d : Dbs} (g : eDbs.good d) {L : List Dcn} (gL : (eSlice eDcn).good L) (hL : L.length ≤ 1048576) : AC Tryz.prog 55 [dbS d, .d (encCs L)] (.o 0 (encEs (conflL d L))) := by
 have hv := implIsValidDatabase_a g
 unfold conflL
 refine AC.intro Tryz.func55 rfl (by decide) (by simp [S.res, S.ress]) (by simp [S.os, S.oss]) (by simp [S.wfs, S.wf, dbS]) (by simp [Tryz.f55]) ?_; rw [Tryz.ntmps55]
 repeat (first | refine aq ?_ | refine ap (by rfl : apartB 0 _ _ = true) ?_ | refine ak ?_ | refine ab ?_ | refine al ?_ | ((first | refine ar ?_ | refine ad ty_mix (by kernel_rfl) ?_ | refine ac ?_ | refine ae ?_ | with_reducible refine Later.mk ?_); simp only [evD, evL, iteL, aX, St.said, St.asked, evStep, evOp, evP, St.init, St.app, srcStep, kill, setMany, loadS, fieldS, buildS, toks, Fin, upd_app, Array.isEmpty, reduceLT, reduceAdd, reduceMul, reduceLeDiff, reduceSub, reduceEqDiff, reduceCtorEq, reduceIte, ↓Opt.is, ↓Opt.no, ↓Asks.yes, ↓Asks.no, tyL, encL, asB]))
 rcases Bool.eq_false_or_eq_true (validDb d) with hd | hd <;> rw [hd] at hv ⊢
 · have hc := edgesBetween_a (caps_two [encRs d.rels, encFs d.facts] [encCs L] 0 0) (confP d L) d.facts (vld_facts hd) (fun a b ha hb hab => confl_a g hd gL hL ha hb (by omega))
   refine ⟨_, hv, ?_⟩; (repeat (first | refine ap (by rfl : apartB 0 _ _ = true) ?_ | refine ap (by simp [osL, D.flat]) ?_)); repeat (first | refine aq ?_ | refine ap (by rfl : apartB 0 _ _ = true) ?_ | refine ak ?_ | refine ab ?_ | refine al ?_ | ((first | refine ar ?_ | refine ad ty_mix (by kernel_rfl) ?_ | refine ac ?_ | refine ae ?_ | with_reducible refine Later.mk ?_); simp only [evD, evL, iteL, aX, St.said, St.asked, evStep, evOp, evP, St.init, St.app, srcStep, kill, setMany, loadS, fieldS, buildS, toks, Fin, upd_app, Array.isEmpty, reduceLT, reduceAdd, reduceMul, reduceLeDiff, reduceSub, reduceEqDiff, reduceCtorEq, reduceIte, ↓Opt.is, ↓Opt.no, ↓Asks.yes, ↓Asks.no, tyL, encL, asB]))
   refine ⟨_, hc, ?_⟩; (repeat (first | refine ap (by rfl : apartB 0 _ _ = true) ?_ | refine ap (by simp [osL, D.flat]) ?_)); repeat (first | refine aq ?_ | refine ap (by rfl : apartB 0 _ _ = true) ?_ | refine ak ?_ | refine ab ?_ | refine al ?_ | ((first | refine ar ?_ | refine ad ty_mix (by kernel_rfl) ?_ | refine ac ?_ | refine ae ?_ | with_reducible refine Later.mk ?_); simp only [evD, evL, iteL, aX, St.said, St.asked, evStep, evOp, evP, St.init, St.app, srcStep, kill, setMany, loadS, fieldS, buildS, toks, Fin, upd_app, Array.isEmpty, reduceLT, reduceAdd, reduceMul, reduceLeDiff, reduceSub, reduceEqDiff, reduceCtorEq, reduceIte, ↓Opt.is, ↓Opt.no, ↓Asks.yes, ↓Asks.no, tyL, encL, asB]))
   refine Ab.ret ?_; simp only [evD, evL, iteL, aX, St.said, St.asked, evStep, evOp, evP, St.init, St.app, srcStep, kill, setMany, loadS, fieldS, buildS, toks, Fin, upd_app, Array.isEmpty, reduceLT, reduceAdd, reduceMul, reduceLeDiff, reduceSub, reduceEqDiff, reduceCtorEq, reduceIte, ↓Opt.is, ↓Opt.no, ↓Asks.yes, ↓Asks.no, tyL, List.nodup_cons, encL, Tryz.f55]
 · refine ⟨_, hv, ?_⟩; (repeat (first | refine ap (by rfl : apartB 0 _ _ = true) ?_ | refine ap (by simp [osL, D.flat]) ?_)); repeat (first | refine aq ?_ | refine ap (by rfl : apartB 0 _ _ = true) ?_ | refine ak ?_ | refine ab ?_ | refine al ?_ | ((first | refine ar ?_ | refine ad ty_mix (by kernel_rfl) ?_ | refine ac ?_ | refine ae ?_ | with_reducible refine Later.mk ?_); simp only [evD, evL, iteL, aX, St.said, St.asked, evStep, evOp, evP, St.init, St.app, srcStep, kill, setMany, loadS, fieldS, buildS, toks, Fin, upd_app, Array.isEmpty, reduceLT, reduceAdd, reduceMul, reduceLeDiff, reduceSub, reduceEqDiff, reduceCtorEq, reduceIte, ↓Opt.is, ↓Opt.no, ↓Asks.yes, ↓Asks.no, tyL, encL, asB]))
   refine Ab.ret ?_; simp only [evD, evL, iteL, aX, St.said, St.asked, evStep, evOp, evP, St.init, St.app, srcStep, kill, setMany, loadS, fieldS, buildS, toks, Fin, upd_app, Array.isEmpty, reduceLT, reduceAdd, reduceMul, reduceLeDiff, reduceSub, reduceEqDiff, reduceCtorEq, reduceIte, ↓Opt.is, ↓Opt.no, ↓Asks.yes, ↓Asks.no, tyL, List.nodup_cons, encL, Tryz.f55]
theorem specConflictEdges_a {d : Dbs} (g : eDbs.good d) {L : List Dcn} (gL : (eSlice eDcn).good L) (hL : L.length ≤ 1048576) : AC Tryz.prog 43 [dbS d, .d (encCs L)] (.o 0 (encEs (conflL d L))) := by
 have hv := specIsValidDatabase_a g
 unfold conflL
 refine AC.intro Tryz.func43 rfl (by decide) (by simp [S.res, S.ress]) (by simp [S.os, S.oss]) (by simp [S.wfs, S.wf, dbS]) (by simp [Tryz.f43]) ?_; rw [Tryz.ntmps43]
 repeat (first | refine aq ?_ | refine ap (by rfl : apartB 0 _ _ = true) ?_ | refine ak ?_ | refine ab ?_ | refine al ?_ | ((first | refine ar ?_ | refine ad ty_mix (by kernel_rfl) ?_ | refine ac ?_ | refine ae ?_ | with_reducible refine Later.mk ?_); simp only [evD, evL, iteL, aX, St.said, St.asked, evStep, evOp, evP, St.init, St.app, srcStep, kill, setMany, loadS, fieldS, buildS, toks, Fin, upd_app, Array.isEmpty, reduceLT, reduceAdd, reduceMul, reduceLeDiff, reduceSub, reduceEqDiff, reduceCtorEq, reduceIte, ↓Opt.is, ↓Opt.no, ↓Asks.yes, ↓Asks.no, tyL, encL, asB]))
 refine Ab.loopI d.facts.length (fun a => validDb d = true ∨ a = 0) (fun a => mkS 79 [(1, .d (.sl (List.map encC L))), (2, .p 0 0), (5, .g 32 ((edgP d.facts.length (confP d L) a).map encE)), (6, .d (.v (.int .i64 (a : Int))))] [(0, .box [.d (.sl (List.map encR d.rels)), .d (.sl (List.map encF d.facts))]), (32, .tip true 75 2 ((edgP d.facts.length (confP d L) a).map encE))] 80) (.inr rfl) ?_ ?_
 · ((first | refine Le.mk rfl ?_ ?_ | refine LeTo.mk rfl ?_ ?_) <;> simp only [evD, evL, iteL, aX, St.said, St.asked, evStep, evOp, evP, St.init, St.app, srcStep, kill, setMany, loadS, fieldS, buildS, toks, Fin, upd_app, Array.isEmpty, reduceLT, reduceAdd, reduceMul, reduceLeDiff, reduceSub, reduceEqDiff, reduceCtorEq, reduceIte, ↓Opt.is, ↓Opt.no, ↓Asks.yes, ↓Asks.no, tyL, encL, leL, leD, ne_eq, edgP, List.range_zero, List.flatMap_nil])
 intro a ha hI
 by_cases h : a < d.facts.length
 · have hlt : ((a : Int) < (d.facts.length : Int)) = True := eq_true (by omega)
   rcases Bool.eq_false_or_eq_true (validDb d) with hd | hd
   · rw [hd] at hv
     have hl := vld_facts hd
     have hw := wrapN h (by omega)
     have hst := edgP_step d.facts.length (confP d L) a
     have hel := edgP_len d.facts.length (confP d L) a
     have hel2 : a * d.facts.length ≤ 14 * 14 := Nat.mul_le_mul (by omega) hl
     generalize edgP d.facts.length (confP d L) a = E at *
     repeat (first | refine aq ?_ | refine ap (by rfl : apartB 0 _ _ = true) ?_ | refine ak ?_ | refine ab ?_ | refine al ?_ | ((first | refine ar ?_ | refine ad ty_mix (by kernel_rfl) ?_ | refine ac ?_ | refine ae ?_ | with_reducible refine Later.mk ?_); simp only [evD, evL, iteL, aX, St.said, St.asked, evStep, evOp, evP, St.init, St.app, srcStep, kill, setMany, loadS, fieldS, buildS, toks, Fin, upd_app, Array.isEmpty, reduceLT, reduceAdd, reduceMul, reduceLeDiff, reduceSub, reduceEqDiff, reduceCtorEq, reduceIte, ↓Opt.is, ↓Opt.no, ↓Asks.yes, ↓Asks.no, tyL, encL, mkS, updl, hlt, asB]))
     refine ⟨_, hv, ?_⟩; (repeat (first | refine ap (by rfl : apartB 0 _ _ = true) ?_ | refine ap (by simp [osL, D.flat]) ?_)); repeat (first | refine aq ?_ | refine ap (by rfl : apartB 0 _ _ = true) ?_ | refine ak ?_ | refine ab ?_ | refine al ?_ | ((first | refine ar ?_ | refine ad ty_mix (by kernel_rfl) ?_ | refine ac ?_ | refine ae ?_ | with_reducible refine Later.mk ?_); simp only [evD, evL, iteL, aX, St.said, St.asked, evStep, evOp, evP, St.init, St.app, srcStep, kill, setMany, loadS, fieldS, buildS, toks, Fin, upd_app, Array.isEmpty, reduceLT, reduceAdd, reduceMul, reduceLeDiff, reduceSub, reduceEqDiff, reduceCtorEq, reduceIte, ↓Opt.is, ↓Opt.no, ↓Asks.yes, ↓Asks.no, tyL, encL, mkS, updl, hw, asB]))
     refine Ab.loopI (d.facts.length - (a + 1)) (fun _ => True) (fun j => mkS 79 [(1, .d (.sl (List.map encC L))), (2, .p 0 0), (5, .g 32 ((E ++ rowP (confP d L) a (a + 1 + j)).map encE)), (6, .d (.v (.int .i64 (a : Int)))), (7, .d (.v (.int .i64 ((a + 1 + j : Nat) : Int))))] [(0, .box [.d (.sl (List.map encR d.rels)), .d (.sl (List.map encF d.facts))]), (32, .tip true 75 2 ((E ++ rowP (confP d L) a (a + 1 + j)).map encE))] 600) trivial ?_ ?_
     · ((first | refine Le.mk rfl ?_ ?_ | refine LeTo.mk rfl ?_ ?_) <;> simp only [evD, evL, iteL, aX, St.said, St.asked, evStep, evOp, evP, St.init, St.app, srcStep, kill, setMany, loadS, fieldS, buildS, toks, Fin, upd_app, Array.isEmpty, reduceLT, reduceAdd, reduceMul, reduceLeDiff, reduceSub, reduceEqDiff, reduceCtorEq, reduceIte, ↓Opt.is, ↓Opt.no, ↓Asks.yes, ↓Asks.no, tyL, encL, leL, leD, ne_eq, Nat.add_zero, rowP_start])
     intro j hj _
     obtain ⟨b, hb⟩ : ∃ b, a + 1 + j = b := ⟨_, rfl⟩
     have hb2 : a + 1 + (j + 1) = b + 1 := by omega
     repeat (first | refine aq ?_ | refine ap (by rfl : apartB 0 _ _ = true) ?_ | refine ak ?_ | refine ab ?_ | refine al ?_ | ((first | refine ar ?_ | refine ad ty_mix (by kernel_rfl) ?_ | refine ac ?_ | refine ae ?_ | with_reducible refine Later.mk ?_); simp only [evD, evL, iteL, aX, St.said, St.asked, evStep, evOp, evP, St.init, St.app, srcStep, kill, setMany, loadS, fieldS, buildS, toks, Fin, upd_app, Array.isEmpty, reduceLT, reduceAdd, reduceMul, reduceLeDiff, reduceSub, reduceEqDiff, reduceCtorEq, reduceIte, ↓Opt.is, ↓Opt.no, ↓Asks.yes, ↓Asks.no, tyL, encL, mkS, updl, hb, asB]))
     refine ⟨fun h2 => ?_, fun h2 => ?_⟩
     · have h2 : b < d.facts.length := by simpa using h2
       have hw2 := wrapN h2 (by omega)
       have hrs := rowP_step (confP d L) a b (by omega)
       have hrl := rowP_len (confP d L) a b
       have hk := haveKey_a (l := d.rels) g.1 (facts_good g h) (facts_good g h2)
       have hke : haveKey d.rels d.facts[a] d.facts[b] = keyR d a b := by
         unfold haveKey
         rw [validDb_fact hd a h, validDb_fact hd b h2, keyR_at h h2]
         rfl
       rw [hke] at hk
       generalize rowP (confP d L) a b = R at *
       repeat (first | refine aq ?_ | refine ap (by rfl : apartB 0 _ _ = true) ?_ | refine ak ?_ | refine ab ?_ | refine al ?_ | ((first | refine ar ?_ | refine ad ty_mix (by kernel_rfl) ?_ | refine ac ?_ | refine ae ?_ | with_reducible refine Later.mk ?_); simp only [evD, evL, iteL, aX, St.said, St.asked, evStep, evOp, evP, St.init, St.app, srcStep, kill, setMany, loadS, fieldS, buildS, toks, Fin, upd_app, Array.isEmpty, reduceLT, reduceAdd, reduceMul, reduceLeDiff, reduceSub, reduceEqDiff, reduceCtorEq, reduceIte, ↓Opt.is, ↓Opt.no, ↓Asks.yes, ↓Asks.no, tyL, encL, getF h, getF h2, asB]))
       refine ⟨_, hk, ?_⟩; (repeat (first | refine ap (by rfl : apartB 0 _ _ = true) ?_ | refine ap (by simp [osL, D.flat]) ?_)); repeat (first | refine aq ?_ | refine ap (by rfl : apartB 0 _ _ = true) ?_ | refine ak ?_ | refine ab ?_ | refine al ?_ | ((first | refine ar ?_ | refine ad ty_mix (by kernel_rfl) ?_ | refine ac ?_ | refine ae ?_ | with_reducible refine Later.mk ?_); simp only [evD, evL, iteL, aX, St.said, St.asked, evStep, evOp, evP, St.init, St.app, srcStep, kill, setMany, loadS, fieldS, buildS, toks, Fin, upd_app, Array.isEmpty, reduceLT, reduceAdd, reduceMul, reduceLeDiff, reduceSub, reduceEqDiff, reduceCtorEq, reduceIte, ↓Opt.is, ↓Opt.no, ↓Asks.yes, ↓Asks.no, tyL, encL, asB]))
       refine Ab.loopI L.length (fun _ => True) (fun n => mkS 79 [(1, .d (.sl (List.map encC L))), (2, .p 0 0), (5, .g 32 ((E ++ R).map encE)), (6, .d (.v (.int .i64 (a : Int)))), (7, .d (.v (.int .i64 (b : Int)))), (8, .d (.v (.bool (keyR d a b || (L.take n).any fun c => violates d c a b || violates d c b a)))), (9, .d (.v (.int .i64 (n : Int))))] [(0, .box [.d (.sl (List.map encR d.rels)), .d (.sl (List.map encF d.facts))]), (32, .tip true 75 2 ((E ++ R).map encE))] 1200) trivial ?_ ?_
       · ((first | refine Le.mk rfl ?_ ?_ | refine LeTo.mk rfl ?_ ?_) <;> simp only [evD, evL, iteL, aX, St.said, St.asked, evStep, evOp, evP, St.init, St.app, srcStep, kill, setMany, loadS, fieldS, buildS, toks, Fin, upd_app, Array.isEmpty, reduceLT, reduceAdd, reduceMul, reduceLeDiff, reduceSub, reduceEqDiff, reduceCtorEq, reduceIte, ↓Opt.is, ↓Opt.no, ↓Asks.yes, ↓Asks.no, tyL, encL, leL, leD, ne_eq, List.take_zero, List.any_nil, Bool.or_false])
       intro n hn _
       repeat (first | refine aq ?_ | refine ap (by rfl : apartB 0 _ _ = true) ?_ | refine ak ?_ | refine ab ?_ | refine al ?_ | ((first | refine ar ?_ | refine ad ty_mix (by kernel_rfl) ?_ | refine ac ?_ | refine ae ?_ | with_reducible refine Later.mk ?_); simp only [evD, evL, iteL, aX, St.said, St.asked, evStep, evOp, evP, St.init, St.app, srcStep, kill, setMany, loadS, fieldS, buildS, toks, Fin, upd_app, Array.isEmpty, reduceLT, reduceAdd, reduceMul, reduceLeDiff, reduceSub, reduceEqDiff, reduceCtorEq, reduceIte, ↓Opt.is, ↓Opt.no, ↓Asks.yes, ↓Asks.no, tyL, encL, mkS, updl, asB]))
       refine ⟨fun h3 => ?_, fun h3 => ?_⟩
       · have h3 : n < L.length := by simpa using h3
         have hw3 := wrapN h3 (by omega)
         have hst2 : (keyR d a b || (L.take (n + 1)).any fun c => violates d c a b || violates d c b a) = ((keyR d a b || (L.take n).any fun c => violates d c a b || violates d c b a) || (violates d L[n] a b || violates d L[n] b a)) := by
           rw [List.take_succ_eq_append_getElem h3, List.any_append, Bool.or_assoc]
           simp
         have gc := gL.2 _ (List.getElem_mem h3)
         have v1 := viol_a (c := L[n]) g gc (a : Int) (b : Int)
         have v2 := viol_a (c := L[n]) g gc (b : Int) (a : Int)
         rcases Bool.eq_false_or_eq_true (keyR d a b || (L.take n).any fun c => violates d c a b || violates d c b a) with hm | hm <;> rw [hm] at hst2
         · repeat (first | refine aq ?_ | refine ap (by rfl : apartB 0 _ _ = true) ?_ | refine ak ?_ | refine ab ?_ | refine al ?_ | ((first | refine ar ?_ | refine ad ty_mix (by kernel_rfl) ?_ | refine ac ?_ | refine ae ?_ | with_reducible refine Later.mk ?_); simp only [evD, evL, iteL, aX, St.said, St.asked, evStep, evOp, evP, St.init, St.app, srcStep, kill, setMany, loadS, fieldS, buildS, toks, Fin, upd_app, Array.isEmpty, reduceLT, reduceAdd, reduceMul, reduceLeDiff, reduceSub, reduceEqDiff, reduceCtorEq, reduceIte, ↓Opt.is, ↓Opt.no, ↓Asks.yes, ↓Asks.no, tyL, encL, hm, hw3, asB]))
           refine ⟨h3, ?_⟩
           ((first | refine Le.mk rfl ?_ ?_ | refine LeTo.mk rfl ?_ ?_) <;> simp only [evD, evL, iteL, aX, St.said, St.asked, evStep, evOp, evP, St.init, St.app, srcStep, kill, setMany, loadS, fieldS, buildS, toks, Fin, upd_app, Array.isEmpty, reduceLT, reduceAdd, reduceMul, reduceLeDiff, reduceSub, reduceEqDiff, reduceCtorEq, reduceIte, ↓Opt.is, ↓Opt.no, ↓Asks.yes, ↓Asks.no, tyL, encL, leL, leD, ne_eq, hst2, Bool.true_or])
         · rcases Bool.eq_false_or_eq_true (violates d L[n] a b) with hm1 | hm1 <;> rw [hm1] at v1 hst2
           · repeat (first | refine aq ?_ | refine ap (by rfl : apartB 0 _ _ = true) ?_ | refine ak ?_ | refine ab ?_ | refine al ?_ | ((first | refine ar ?_ | refine ad ty_mix (by kernel_rfl) ?_ | refine ac ?_ | refine ae ?_ | with_reducible refine Later.mk ?_); simp only [evD, evL, iteL, aX, St.said, St.asked, evStep, evOp, evP, St.init, St.app, srcStep, kill, setMany, loadS, fieldS, buildS, toks, Fin, upd_app, Array.isEmpty, reduceLT, reduceAdd, reduceMul, reduceLeDiff, reduceSub, reduceEqDiff, reduceCtorEq, reduceIte, ↓Opt.is, ↓Opt.no, ↓Asks.yes, ↓Asks.no, tyL, encL, hm, getC h3, asB]))
             refine ⟨_, v1, ?_⟩; (repeat (first | refine ap (by rfl : apartB 0 _ _ = true) ?_ | refine ap (by simp [osL, D.flat]) ?_)); repeat (first | refine aq ?_ | refine ap (by rfl : apartB 0 _ _ = true) ?_ | refine ak ?_ | refine ab ?_ | refine al ?_ | ((first | refine ar ?_ | refine ad ty_mix (by kernel_rfl) ?_ | refine ac ?_ | refine ae ?_ | with_reducible refine Later.mk ?_); simp only [evD, evL, iteL, aX, St.said, St.asked, evStep, evOp, evP, St.init, St.app, srcStep, kill, setMany, loadS, fieldS, buildS, toks, Fin, upd_app, Array.isEmpty, reduceLT, reduceAdd, reduceMul, reduceLeDiff, reduceSub, reduceEqDiff, reduceCtorEq, reduceIte, ↓Opt.is, ↓Opt.no, ↓Asks.yes, ↓Asks.no, tyL, encL, hw3, asB]))
             refine ⟨h3, ?_⟩
             ((first | refine Le.mk rfl ?_ ?_ | refine LeTo.mk rfl ?_ ?_) <;> simp only [evD, evL, iteL, aX, St.said, St.asked, evStep, evOp, evP, St.init, St.app, srcStep, kill, setMany, loadS, fieldS, buildS, toks, Fin, upd_app, Array.isEmpty, reduceLT, reduceAdd, reduceMul, reduceLeDiff, reduceSub, reduceEqDiff, reduceCtorEq, reduceIte, ↓Opt.is, ↓Opt.no, ↓Asks.yes, ↓Asks.no, tyL, encL, leL, leD, ne_eq, hst2, Bool.true_or, Bool.or_true])
           · repeat (first | refine aq ?_ | refine ap (by rfl : apartB 0 _ _ = true) ?_ | refine ak ?_ | refine ab ?_ | refine al ?_ | ((first | refine ar ?_ | refine ad ty_mix (by kernel_rfl) ?_ | refine ac ?_ | refine ae ?_ | with_reducible refine Later.mk ?_); simp only [evD, evL, iteL, aX, St.said, St.asked, evStep, evOp, evP, St.init, St.app, srcStep, kill, setMany, loadS, fieldS, buildS, toks, Fin, upd_app, Array.isEmpty, reduceLT, reduceAdd, reduceMul, reduceLeDiff, reduceSub, reduceEqDiff, reduceCtorEq, reduceIte, ↓Opt.is, ↓Opt.no, ↓Asks.yes, ↓Asks.no, tyL, encL, hm, getC h3, asB]))
             refine ⟨_, v1, ?_⟩; (repeat (first | refine ap (by rfl : apartB 0 _ _ = true) ?_ | refine ap (by simp [osL, D.flat]) ?_)); repeat (first | refine aq ?_ | refine ap (by rfl : apartB 0 _ _ = true) ?_ | refine ak ?_ | refine ab ?_ | refine al ?_ | ((first | refine ar ?_ | refine ad ty_mix (by kernel_rfl) ?_ | refine ac ?_ | refine ae ?_ | with_reducible refine Later.mk ?_); simp only [evD, evL, iteL, aX, St.said, St.asked, evStep, evOp, evP, St.init, St.app, srcStep, kill, setMany, loadS, fieldS, buildS, toks, Fin, upd_app, Array.isEmpty, reduceLT, reduceAdd, reduceMul, reduceLeDiff, reduceSub, reduceEqDiff, reduceCtorEq, reduceIte, ↓Opt.is, ↓Opt.no, ↓Asks.yes, ↓Asks.no, tyL, encL, getC h3, asB]))
             refine ⟨_, v2, ?_⟩; (repeat (first | refine ap (by rfl : apartB 0 _ _ = true) ?_ | refine ap (by simp [osL, D.flat]) ?_)); repeat (first | refine aq ?_ | refine ap (by rfl : apartB 0 _ _ = true) ?_ | refine ak ?_ | refine ab ?_ | refine al ?_ | ((first | refine ar ?_ | refine ad ty_mix (by kernel_rfl) ?_ | refine ac ?_ | refine ae ?_ | with_reducible refine Later.mk ?_); simp only [evD, evL, iteL, aX, St.said, St.asked, evStep, evOp, evP, St.init, St.app, srcStep, kill, setMany, loadS, fieldS, buildS, toks, Fin, upd_app, Array.isEmpty, reduceLT, reduceAdd, reduceMul, reduceLeDiff, reduceSub, reduceEqDiff, reduceCtorEq, reduceIte, ↓Opt.is, ↓Opt.no, ↓Asks.yes, ↓Asks.no, tyL, encL, hw3, asB]))
             refine ⟨h3, ?_⟩
             ((first | refine Le.mk rfl ?_ ?_ | refine LeTo.mk rfl ?_ ?_) <;> simp only [evD, evL, iteL, aX, St.said, St.asked, evStep, evOp, evP, St.init, St.app, srcStep, kill, setMany, loadS, fieldS, buildS, toks, Fin, upd_app, Array.isEmpty, reduceLT, reduceAdd, reduceMul, reduceLeDiff, reduceSub, reduceEqDiff, reduceCtorEq, reduceIte, ↓Opt.is, ↓Opt.no, ↓Asks.yes, ↓Asks.no, tyL, encL, leL, leD, ne_eq, hst2, Bool.false_or])
       · have h3 : n = L.length := by have := of_decide_eq_false h3; omega
         subst h3
         repeat (first | refine aq ?_ | refine ap (by rfl : apartB 0 _ _ = true) ?_ | refine ak ?_ | refine ab ?_ | refine al ?_ | ((first | refine ar ?_ | refine ad ty_mix (by kernel_rfl) ?_ | refine ac ?_ | refine ae ?_ | with_reducible refine Later.mk ?_); simp only [evD, evL, iteL, aX, St.said, St.asked, evStep, evOp, evP, St.init, St.app, srcStep, kill, setMany, loadS, fieldS, buildS, toks, Fin, upd_app, Array.isEmpty, reduceLT, reduceAdd, reduceMul, reduceLeDiff, reduceSub, reduceEqDiff, reduceCtorEq, reduceIte, ↓Opt.is, ↓Opt.no, ↓Asks.yes, ↓Asks.no, tyL, encL, List.take_length, asB]))
         refine ⟨fun h4 => ?_, fun h4 => ?_⟩
         · have h4 : confP d L a b = true := h4
           rw [if_pos h4] at hrs
           repeat (first | refine aq ?_ | refine ap (by rfl : apartB 0 _ _ = true) ?_ | refine ak ?_ | refine ab ?_ | refine al ?_ | ((first | refine ar ?_ | refine ad ty_mix (by kernel_rfl) ?_ | refine ac ?_ | refine ae ?_ | with_reducible refine Later.mk ?_); simp only [evD, evL, iteL, aX, St.said, St.asked, evStep, evOp, evP, St.init, St.app, srcStep, kill, setMany, loadS, fieldS, buildS, toks, Fin, upd_app, Array.isEmpty, reduceLT, reduceAdd, reduceMul, reduceLeDiff, reduceSub, reduceEqDiff, reduceCtorEq, reduceIte, ↓Opt.is, ↓Opt.no, ↓Asks.yes, ↓Asks.no, tyL, encL, List.length_append, asB]))
           refine ⟨by simp only [maxLen]; omega, by omega, ?_⟩
           repeat (first | refine aq ?_ | refine ap (by rfl : apartB 0 _ _ = true) ?_ | refine ak ?_ | refine ab ?_ | refine al ?_ | ((first | refine ar ?_ | refine ad ty_mix (by kernel_rfl) ?_ | refine ac ?_ | refine ae ?_ | with_reducible refine Later.mk ?_); simp only [evD, evL, iteL, aX, St.said, St.asked, evStep, evOp, evP, St.init, St.app, srcStep, kill, setMany, loadS, fieldS, buildS, toks, Fin, upd_app, Array.isEmpty, reduceLT, reduceAdd, reduceMul, reduceLeDiff, reduceSub, reduceEqDiff, reduceCtorEq, reduceIte, ↓Opt.is, ↓Opt.no, ↓Asks.yes, ↓Asks.no, tyL, encL, hw2, asB]))
           refine ⟨by omega, ?_⟩
           ((first | refine Le.mk rfl ?_ ?_ | refine LeTo.mk rfl ?_ ?_) <;> simp only [evD, evL, iteL, aX, St.said, St.asked, evStep, evOp, evP, St.init, St.app, srcStep, kill, setMany, loadS, fieldS, buildS, toks, Fin, upd_app, Array.isEmpty, reduceLT, reduceAdd, reduceMul, reduceLeDiff, reduceSub, reduceEqDiff, reduceCtorEq, reduceIte, ↓Opt.is, ↓Opt.no, ↓Asks.yes, ↓Asks.no, tyL, encL, leL, leD, ne_eq, hb2, hrs, List.map_append, List.append_assoc])
         · have h4 : confP d L a b = false := h4
           rw [if_neg (by rw [h4]; exact Bool.false_ne_true), List.append_nil] at hrs
           repeat (first | refine aq ?_ | refine ap (by rfl : apartB 0 _ _ = true) ?_ | refine ak ?_ | refine ab ?_ | refine al ?_ | ((first | refine ar ?_ | refine ad ty_mix (by kernel_rfl) ?_ | refine ac ?_ | refine ae ?_ | with_reducible refine Later.mk ?_); simp only [evD, evL, iteL, aX, St.said, St.asked, evStep, evOp, evP, St.init, St.app, srcStep, kill, setMany, loadS, fieldS, buildS, toks, Fin, upd_app, Array.isEmpty, reduceLT, reduceAdd, reduceMul, reduceLeDiff, reduceSub, reduceEqDiff, reduceCtorEq, reduceIte, ↓Opt.is, ↓Opt.no, ↓Asks.yes, ↓Asks.no, tyL, encL, hw2, asB]))
           refine ⟨by omega, ?_⟩
           ((first | refine Le.mk rfl ?_ ?_ | refine LeTo.mk rfl ?_ ?_) <;> simp only [evD, evL, iteL, aX, St.said, St.asked, evStep, evOp, evP, St.init, St.app, srcStep, kill, setMany, loadS, fieldS, buildS, toks, Fin, upd_app, Array.isEmpty, reduceLT, reduceAdd, reduceMul, reduceLeDiff, reduceSub, reduceEqDiff, reduceCtorEq, reduceIte, ↓Opt.is, ↓Opt.no, ↓Asks.yes, ↓Asks.no, tyL, encL, leL, leD, ne_eq, hb2, hrs])
     · have h2 : b = d.facts.length := by have := of_decide_eq_false h2; omega
       repeat (first | refine aq ?_ | refine ap (by rfl : apartB 0 _ _ = true) ?_ | refine ak ?_ | refine ab ?_ | refine al ?_ | ((first | refine ar ?_ | refine ad ty_mix (by kernel_rfl) ?_ | refine ac ?_ | refine ae ?_ | with_reducible refine Later.mk ?_); simp only [evD, evL, iteL, aX, St.said, St.asked, evStep, evOp, evP, St.init, St.app, srcStep, kill, setMany, loadS, fieldS, buildS, toks, Fin, upd_app, Array.isEmpty, reduceLT, reduceAdd, reduceMul, reduceLeDiff, reduceSub, reduceEqDiff, reduceCtorEq, reduceIte, ↓Opt.is, ↓Opt.no, ↓Asks.yes, ↓Asks.no, tyL, encL, hw, asB]))
       refine ⟨h, hd, ?_⟩
       ((first | refine Le.mk rfl ?_ ?_ | refine LeTo.mk rfl ?_ ?_) <;> simp only [evD, evL, iteL, aX, St.said, St.asked, evStep, evOp, evP, St.init, St.app, srcStep, kill, setMany, loadS, fieldS, buildS, toks, Fin, upd_app, Array.isEmpty, reduceLT, reduceAdd, reduceMul, reduceLeDiff, reduceSub, reduceEqDiff, reduceCtorEq, reduceIte, ↓Opt.is, ↓Opt.no, ↓Asks.yes, ↓Asks.no, tyL, encL, leL, leD, ne_eq, hst, h2])
   · have h0 : a = 0 := by
       rcases hI with h1 | h1
       · rw [hd] at h1; cases h1
       · exact h1
     subst h0
     rw [hd] at hv ⊢
     repeat (first | refine aq ?_ | refine ap (by rfl : apartB 0 _ _ = true) ?_ | refine ak ?_ | refine ab ?_ | refine al ?_ | ((first | refine ar ?_ | refine ad ty_mix (by kernel_rfl) ?_ | refine ac ?_ | refine ae ?_ | with_reducible refine Later.mk ?_); simp only [evD, evL, iteL, aX, St.said, St.asked, evStep, evOp, evP, St.init, St.app, srcStep, kill, setMany, loadS, fieldS, buildS, toks, Fin, upd_app, Array.isEmpty, reduceLT, reduceAdd, reduceMul, reduceLeDiff, reduceSub, reduceEqDiff, reduceCtorEq, reduceIte, ↓Opt.is, ↓Opt.no, ↓Asks.yes, ↓Asks.no, tyL, encL, mkS, updl, hlt, asB]))
     refine ⟨_, hv, ?_⟩; (repeat (first | refine ap (by rfl : apartB 0 _ _ = true) ?_ | refine ap (by simp [osL, D.flat]) ?_)); repeat (first | refine aq ?_ | refine ap (by rfl : apartB 0 _ _ = true) ?_ | refine ak ?_ | refine ab ?_ | refine al ?_ | ((first | refine ar ?_ | refine ad ty_mix (by kernel_rfl) ?_ | refine ac ?_ | refine ae ?_ | with_reducible refine Later.mk ?_); simp only [evD, evL, iteL, aX, St.said, St.asked, evStep, evOp, evP, St.init, St.app, srcStep, kill, setMany, loadS, fieldS, buildS, toks, Fin, upd_app, Array.isEmpty, reduceLT, reduceAdd, reduceMul, reduceLeDiff, reduceSub, reduceEqDiff, reduceCtorEq, reduceIte, ↓Opt.is, ↓Opt.no, ↓Asks.yes, ↓Asks.no, tyL, encL, mkS, updl, asB]))
     refine Ab.ret ?_; simp only [evD, evL, iteL, aX, St.said, St.asked, evStep, evOp, evP, St.init, St.app, srcStep, kill, setMany, loadS, fieldS, buildS, toks, Fin, upd_app, Array.isEmpty, reduceLT, reduceAdd, reduceMul, reduceLeDiff, reduceSub, reduceEqDiff, reduceCtorEq, reduceIte, ↓Opt.is, ↓Opt.no, ↓Asks.yes, ↓Asks.no, tyL, List.nodup_cons, encL, Tryz.f43, edgP, List.range_zero, List.flatMap_nil]
     exact ⟨_, _, rfl⟩
 · have h : a = d.facts.length := by omega
   have hlt : ((a : Int) < (d.facts.length : Int)) = False := eq_false (by omega)
   have hr : (if validDb d = true then edgesL d.facts.length (confP d L) else []) = edgP d.facts.length (confP d L) a := by
     rcases hI with h1 | h1
     · rw [if_pos h1, h]; rfl
     · subst h1
       rw [← h]
       simp [edgesL, edgP]
   rw [hr]
   repeat (first | refine aq ?_ | refine ap (by rfl : apartB 0 _ _ = true) ?_ | refine ak ?_ | refine ab ?_ | refine al ?_ | ((first | refine ar ?_ | refine ad ty_mix (by kernel_rfl) ?_ | refine ac ?_ | refine ae ?_ | with_reducible refine Later.mk ?_); simp only [evD, evL, iteL, aX, St.said, St.asked, evStep, evOp, evP, St.init, St.app, srcStep, kill, setMany, loadS, fieldS, buildS, toks, Fin, upd_app, Array.isEmpty, reduceLT, reduceAdd, reduceMul, reduceLeDiff, reduceSub, reduceEqDiff, reduceCtorEq, reduceIte, ↓Opt.is, ↓Opt.no, ↓Asks.yes, ↓Asks.no, tyL, encL, mkS, updl, hlt, asB]))
   refine Ab.ret ?_; simp only [evD, evL, iteL, aX, St.said, St.asked, evStep, evOp, evP, St.init, St.app, srcStep, kill, setMany, loadS, fieldS, buildS, toks, Fin, upd_app, Array.isEmpty, reduceLT, reduceAdd, reduceMul, reduceLeDiff, reduceSub, reduceEqDiff, reduceCtorEq, reduceIte, ↓Opt.is, ↓Opt.no, ↓Asks.yes, ↓Asks.no, tyL, List.nodup_cons, encL, Tryz.f43]
   exact ⟨_, _, rfl⟩
end Ab
end

section
/- Chapter 8: the conflicts of keys. -/
open Go Go.Proofs Go.RowKit
namespace Ab
def kconfL (d : Dbs) : List Edg := if validDb d = true then edgesL d.facts.length (keyR d) else []
end Ab
end

section
/- The conflicts' edges are small and in range. -/
open Go Go.Proofs Go.RowKit
namespace Ab
theorem edgesL_len {n : Nat} (P : Nat → Nat → Bool) (h : n ≤ 14) : (edgesL n P).length ≤ 196 := by
 have h1 := edgP_len n P n
 have h2 : n * n ≤ 14 * 14 := Nat.mul_le_mul h h
 unfold edgesL
 omega
theorem edgesL_good {n : Nat} (P : Nat → Nat → Bool) (h : n ≤ 14) : (eSlice eEdg).good (edgesL n P) := by
 refine ⟨Nat.le_trans (edgesL_len P h) (by decide), ?_⟩
 intro x hx
 unfold edgesL edgP rowP at hx
 simp only [List.mem_flatMap, List.mem_map, List.mem_filter, List.mem_range] at hx
 obtain ⟨a, ha, k, ⟨hk, _⟩, rfl⟩ := hx
 exact ⟨by show inR _; unfold inR; simp only; omega, by show inR _; unfold inR; simp only; omega⟩
theorem nil_goodE : (eSlice eEdg).good [] := ⟨Nat.zero_le _, by simp⟩
theorem conflL_good (d : Dbs) (L : List Dcn) : (eSlice eEdg).good (conflL d L) := by
 unfold conflL
 split
 · exact edgesL_good _ (vld_facts ‹_›)
 · exact nil_goodE
theorem conflL_len (d : Dbs) (L : List Dcn) : (conflL d L).length ≤ 196 := by
 unfold conflL
 split
 · exact edgesL_len _ (vld_facts ‹_›)
 · exact Nat.zero_le _
end Ab
end

section
/- Chapter 34: subset repairs, both sides. -/
open Go Go.Proofs Go.RowKit
namespace Ab
def subR (d : Dbs) (L : List Dcn) : List (List Int) := if validDb d = true then miL (d.facts.length : Int) (conflL d L) else []
end Ab
end

section
/- Chapter 36: the preferred repairs, both sides. -/
open Go Go.Proofs Go.RowKit
namespace Ab
def pfrR (d : Dbs) (L : List Dcn) (p : List Edg) : List (List Int) := if validDb d = true then parR (d.facts.length : Int) (conflL d L) p else []
theorem pfrR_mem {d : Dbs} {L : List Dcn} {p : List Edg} {s : List Int} (h : s ∈ pfrR d L p) : s.length ≤ 64 ∧ (eSlice eInt).good s := by
 unfold pfrR at h
 split at h
 · exact parR_mem h
 · cases h
theorem pfrR_len (d : Dbs) (L : List Dcn) (p : List Edg) : (pfrR d L p).length ≤ 16384 := by
 unfold pfrR
 split
 · exact parR_len _ _ _
 · exact Nat.zero_le _
theorem pfrR_good (d : Dbs) (L : List Dcn) (p : List Edg) : (eSlice (eSlice eInt)).good (pfrR d L p) := ⟨by have := pfrR_len d L p; simp only [maxLen]; omega, fun s hs => (pfrR_mem hs).2⟩
theorem pfrR_lvs (d : Dbs) (L : List Dcn) (p : List Edg) : lvs List.length (pfrR d L p) ≤ 4611686018427000000 := by
 have h1 := lvs_each (pfrR d L p) (fun s hs => (pfrR_mem hs).1)
 have h2 := pfrR_len d L p
 omega
theorem preferredBy_a {d : Dbs} (g : eDbs.good d) {L : List Dcn} (gL : (eSlice eDcn).good L) (hL : L.length ≤ 1048576) {p : List Edg} (gP : (eSlice eEdg).good p) (hp : p.length ≤ 1048576) : AC Tryz.prog 45 [.f (.func 46) [] [], dbS d, .d (encCs L), .d (encEs p)] (.o 0 (encIss (pfrR d L p))) := by
 have hc1 := implIsValidDatabase_a g
 have hc2 := implConflictEdges_a g gL hL
 have hln := conflL_len d L
 have hc3 := implParetoOptimalRepairs_a (n := (d.facts.length : Int)) (conflL_good d L) gP (by omega) hp
 unfold pfrR
 rcases Bool.eq_false_or_eq_true (validDb d) with hd | hd
 · rw [hd] at hc1 ⊢
   rw [if_pos rfl]
   unfold dbS at hc1 hc2 ⊢
   refine AC.intro Tryz.func45 rfl (by decide) (by simp [S.res, S.ress]) (by simp [S.os, S.oss]) (by simp [S.wfs, S.wf, dbS]) (by simp [Tryz.f45]) ?_; rw [Tryz.ntmps45]
   repeat (first | refine aq ?_ | refine ap (by rfl : apartB 0 _ _ = true) ?_ | refine ak ?_ | refine ab ?_ | refine al ?_ | ((first | refine ar ?_ | refine ad ty_mix (by kernel_rfl) ?_ | refine ac ?_ | refine ae ?_ | with_reducible refine Later.mk ?_); simp only [evD, evL, iteL, aX, St.said, St.asked, evStep, evOp, evP, St.init, St.app, srcStep, kill, setMany, loadS, fieldS, buildS, toks, Fin, upd_app, Array.isEmpty, reduceLT, reduceAdd, reduceMul, reduceLeDiff, reduceSub, reduceEqDiff, reduceCtorEq, reduceIte, ↓Opt.is, ↓Opt.no, ↓Asks.yes, ↓Asks.no, tyL, encL, asB]))
   refine ⟨_, hc1, ?_⟩; (repeat (first | refine ap (by rfl : apartB 0 _ _ = true) ?_ | refine ap (by simp [osL, D.flat]) ?_)); repeat (first | refine aq ?_ | refine ap (by rfl : apartB 0 _ _ = true) ?_ | refine ak ?_ | refine ab ?_ | refine al ?_ | ((first | refine ar ?_ | refine ad ty_mix (by kernel_rfl) ?_ | refine ac ?_ | refine ae ?_ | with_reducible refine Later.mk ?_); simp only [evD, evL, iteL, aX, St.said, St.asked, evStep, evOp, evP, St.init, St.app, srcStep, kill, setMany, loadS, fieldS, buildS, toks, Fin, upd_app, Array.isEmpty, reduceLT, reduceAdd, reduceMul, reduceLeDiff, reduceSub, reduceEqDiff, reduceCtorEq, reduceIte, ↓Opt.is, ↓Opt.no, ↓Asks.yes, ↓Asks.no, tyL, encL, asB]))
   refine ⟨_, hc2, ?_⟩; (repeat (first | refine ap (by rfl : apartB 0 _ _ = true) ?_ | refine ap (by simp [osL, D.flat]) ?_)); repeat (first | refine aq ?_ | refine ap (by rfl : apartB 0 _ _ = true) ?_ | refine ak ?_ | refine ab ?_ | refine al ?_ | ((first | refine ar ?_ | refine ad ty_mix (by kernel_rfl) ?_ | refine ac ?_ | refine ae ?_ | with_reducible refine Later.mk ?_); simp only [evD, evL, iteL, aX, St.said, St.asked, evStep, evOp, evP, St.init, St.app, srcStep, kill, setMany, loadS, fieldS, buildS, toks, Fin, upd_app, Array.isEmpty, reduceLT, reduceAdd, reduceMul, reduceLeDiff, reduceSub, reduceEqDiff, reduceCtorEq, reduceIte, ↓Opt.is, ↓Opt.no, ↓Asks.yes, ↓Asks.no, tyL, encL, asB]))
   refine ⟨_, hc3, ?_⟩; (repeat (first | refine ap (by rfl : apartB 0 _ _ = true) ?_ | refine ap (by simp [osL, D.flat]) ?_)); repeat (first | refine aq ?_ | refine ap (by rfl : apartB 0 _ _ = true) ?_ | refine ak ?_ | refine ab ?_ | refine al ?_ | ((first | refine ar ?_ | refine ad ty_mix (by kernel_rfl) ?_ | refine ac ?_ | refine ae ?_ | with_reducible refine Later.mk ?_); simp only [evD, evL, iteL, aX, St.said, St.asked, evStep, evOp, evP, St.init, St.app, srcStep, kill, setMany, loadS, fieldS, buildS, toks, Fin, upd_app, Array.isEmpty, reduceLT, reduceAdd, reduceMul, reduceLeDiff, reduceSub, reduceEqDiff, reduceCtorEq, reduceIte, ↓Opt.is, ↓Opt.no, ↓Asks.yes, ↓Asks.no, tyL, encL, asB]))
   refine Ab.ret ?_; simp only [evD, evL, iteL, aX, St.said, St.asked, evStep, evOp, evP, St.init, St.app, srcStep, kill, setMany, loadS, fieldS, buildS, toks, Fin, upd_app, Array.isEmpty, reduceLT, reduceAdd, reduceMul, reduceLeDiff, reduceSub, reduceEqDiff, reduceCtorEq, reduceIte, ↓Opt.is, ↓Opt.no, ↓Asks.yes, ↓Asks.no, tyL, List.nodup_cons, encL, Tryz.f45]
 · rw [hd] at hc1 ⊢
   rw [if_neg (by simp)]
   unfold dbS at hc1 ⊢
   refine AC.intro Tryz.func45 rfl (by decide) (by simp [S.res, S.ress]) (by simp [S.os, S.oss]) (by simp [S.wfs, S.wf, dbS]) (by simp [Tryz.f45]) ?_; rw [Tryz.ntmps45]
   repeat (first | refine aq ?_ | refine ap (by rfl : apartB 0 _ _ = true) ?_ | refine ak ?_ | refine ab ?_ | refine al ?_ | ((first | refine ar ?_ | refine ad ty_mix (by kernel_rfl) ?_ | refine ac ?_ | refine ae ?_ | with_reducible refine Later.mk ?_); simp only [evD, evL, iteL, aX, St.said, St.asked, evStep, evOp, evP, St.init, St.app, srcStep, kill, setMany, loadS, fieldS, buildS, toks, Fin, upd_app, Array.isEmpty, reduceLT, reduceAdd, reduceMul, reduceLeDiff, reduceSub, reduceEqDiff, reduceCtorEq, reduceIte, ↓Opt.is, ↓Opt.no, ↓Asks.yes, ↓Asks.no, tyL, encL, asB]))
   refine ⟨_, hc1, ?_⟩; (repeat (first | refine ap (by rfl : apartB 0 _ _ = true) ?_ | refine ap (by simp [osL, D.flat]) ?_)); repeat (first | refine aq ?_ | refine ap (by rfl : apartB 0 _ _ = true) ?_ | refine ak ?_ | refine ab ?_ | refine al ?_ | ((first | refine ar ?_ | refine ad ty_mix (by kernel_rfl) ?_ | refine ac ?_ | refine ae ?_ | with_reducible refine Later.mk ?_); simp only [evD, evL, iteL, aX, St.said, St.asked, evStep, evOp, evP, St.init, St.app, srcStep, kill, setMany, loadS, fieldS, buildS, toks, Fin, upd_app, Array.isEmpty, reduceLT, reduceAdd, reduceMul, reduceLeDiff, reduceSub, reduceEqDiff, reduceCtorEq, reduceIte, ↓Opt.is, ↓Opt.no, ↓Asks.yes, ↓Asks.no, tyL, encL, asB]))
   refine Ab.ret ?_; simp only [evD, evL, iteL, aX, St.said, St.asked, evStep, evOp, evP, St.init, St.app, srcStep, kill, setMany, loadS, fieldS, buildS, toks, Fin, upd_app, Array.isEmpty, reduceLT, reduceAdd, reduceMul, reduceLeDiff, reduceSub, reduceEqDiff, reduceCtorEq, reduceIte, ↓Opt.is, ↓Opt.no, ↓Asks.yes, ↓Asks.no, tyL, List.nodup_cons, encL, Tryz.f45]
theorem implPreferredRepairs_a {d : Dbs} (g : eDbs.good d) {L : List Dcn} (gL : (eSlice eDcn).good L) (hL : L.length ≤ 1048576) {p : List Edg} (gP : (eSlice eEdg).good p) (hp : p.length ≤ 1048576) : AC Tryz.prog 21 [dbS d, .d (encCs L), .d (encEs p)] (.o 0 (encIss (pfrR d L p))) := by
 have hc1 := preferredBy_a g gL hL gP hp
 unfold dbS at hc1 ⊢
 refine AC.intro Tryz.func21 rfl (by decide) (by simp [S.res, S.ress]) (by simp [S.os, S.oss]) (by simp [S.wfs, S.wf, dbS]) (by simp [Tryz.f21]) ?_; rw [Tryz.ntmps21]
 repeat (first | refine aq ?_ | refine ap (by rfl : apartB 0 _ _ = true) ?_ | refine ak ?_ | refine ab ?_ | refine al ?_ | ((first | refine ar ?_ | refine ad ty_mix (by kernel_rfl) ?_ | refine ac ?_ | refine ae ?_ | with_reducible refine Later.mk ?_); simp only [evD, evL, iteL, aX, St.said, St.asked, evStep, evOp, evP, St.init, St.app, srcStep, kill, setMany, loadS, fieldS, buildS, toks, Fin, upd_app, Array.isEmpty, reduceLT, reduceAdd, reduceMul, reduceLeDiff, reduceSub, reduceEqDiff, reduceCtorEq, reduceIte, ↓Opt.is, ↓Opt.no, ↓Asks.yes, ↓Asks.no, tyL, encL, asB]))
 refine ⟨_, hc1, ?_⟩; (repeat (first | refine ap (by rfl : apartB 0 _ _ = true) ?_ | refine ap (by simp [osL, D.flat]) ?_)); repeat (first | refine aq ?_ | refine ap (by rfl : apartB 0 _ _ = true) ?_ | refine ak ?_ | refine ab ?_ | refine al ?_ | ((first | refine ar ?_ | refine ad ty_mix (by kernel_rfl) ?_ | refine ac ?_ | refine ae ?_ | with_reducible refine Later.mk ?_); simp only [evD, evL, iteL, aX, St.said, St.asked, evStep, evOp, evP, St.init, St.app, srcStep, kill, setMany, loadS, fieldS, buildS, toks, Fin, upd_app, Array.isEmpty, reduceLT, reduceAdd, reduceMul, reduceLeDiff, reduceSub, reduceEqDiff, reduceCtorEq, reduceIte, ↓Opt.is, ↓Opt.no, ↓Asks.yes, ↓Asks.no, tyL, encL, asB]))
 refine Ab.ret ?_; simp only [evD, evL, iteL, aX, St.said, St.asked, evStep, evOp, evP, St.init, St.app, srcStep, kill, setMany, loadS, fieldS, buildS, toks, Fin, upd_app, Array.isEmpty, reduceLT, reduceAdd, reduceMul, reduceLeDiff, reduceSub, reduceEqDiff, reduceCtorEq, reduceIte, ↓Opt.is, ↓Opt.no, ↓Asks.yes, ↓Asks.no, tyL, List.nodup_cons, encL, Tryz.f21]
theorem specPreferredRepairs_a {d : Dbs} (g : eDbs.good d) {L : List Dcn} (gL : (eSlice eDcn).good L) (hL : L.length ≤ 1048576) {p : List Edg} (gP : (eSlice eEdg).good p) (hp : p.length ≤ 1048576) : AC Tryz.prog 19 [dbS d, .d (encCs L), .d (encEs p)] (.d (encIss (pfrR d L p))) := by
 have hc1 := specIsValidDatabase_a g
 have hc2 := specConflictEdges_a g gL hL
 have hln := conflL_len d L
 have hc3 := specParetoOptimalRepairs_a (n := (d.facts.length : Int)) (conflL_good d L) gP (by omega) hp
 unfold pfrR
 rcases Bool.eq_false_or_eq_true (validDb d) with hd | hd
 · rw [hd] at hc1 ⊢
   rw [if_pos rfl]
   unfold dbS at hc1 hc2 ⊢
   refine AC.intro Tryz.func19 rfl (by decide) (by simp [S.res, S.ress]) (by simp [S.os, S.oss]) (by simp [S.wfs, S.wf, dbS]) (by simp [Tryz.f19]) ?_; rw [Tryz.ntmps19]
   repeat (first | refine aq ?_ | refine ap (by rfl : apartB 0 _ _ = true) ?_ | refine ak ?_ | refine ab ?_ | refine al ?_ | ((first | refine ar ?_ | refine ad ty_mix (by kernel_rfl) ?_ | refine ac ?_ | refine ae ?_ | with_reducible refine Later.mk ?_); simp only [evD, evL, iteL, aX, St.said, St.asked, evStep, evOp, evP, St.init, St.app, srcStep, kill, setMany, loadS, fieldS, buildS, toks, Fin, upd_app, Array.isEmpty, reduceLT, reduceAdd, reduceMul, reduceLeDiff, reduceSub, reduceEqDiff, reduceCtorEq, reduceIte, ↓Opt.is, ↓Opt.no, ↓Asks.yes, ↓Asks.no, tyL, encL, asB]))
   refine ⟨_, hc1, ?_⟩; (repeat (first | refine ap (by rfl : apartB 0 _ _ = true) ?_ | refine ap (by simp [osL, D.flat]) ?_)); repeat (first | refine aq ?_ | refine ap (by rfl : apartB 0 _ _ = true) ?_ | refine ak ?_ | refine ab ?_ | refine al ?_ | ((first | refine ar ?_ | refine ad ty_mix (by kernel_rfl) ?_ | refine ac ?_ | refine ae ?_ | with_reducible refine Later.mk ?_); simp only [evD, evL, iteL, aX, St.said, St.asked, evStep, evOp, evP, St.init, St.app, srcStep, kill, setMany, loadS, fieldS, buildS, toks, Fin, upd_app, Array.isEmpty, reduceLT, reduceAdd, reduceMul, reduceLeDiff, reduceSub, reduceEqDiff, reduceCtorEq, reduceIte, ↓Opt.is, ↓Opt.no, ↓Asks.yes, ↓Asks.no, tyL, encL, asB]))
   refine ⟨_, hc2, ?_⟩; (repeat (first | refine ap (by rfl : apartB 0 _ _ = true) ?_ | refine ap (by simp [osL, D.flat]) ?_)); repeat (first | refine aq ?_ | refine ap (by rfl : apartB 0 _ _ = true) ?_ | refine ak ?_ | refine ab ?_ | refine al ?_ | ((first | refine ar ?_ | refine ad ty_mix (by kernel_rfl) ?_ | refine ac ?_ | refine ae ?_ | with_reducible refine Later.mk ?_); simp only [evD, evL, iteL, aX, St.said, St.asked, evStep, evOp, evP, St.init, St.app, srcStep, kill, setMany, loadS, fieldS, buildS, toks, Fin, upd_app, Array.isEmpty, reduceLT, reduceAdd, reduceMul, reduceLeDiff, reduceSub, reduceEqDiff, reduceCtorEq, reduceIte, ↓Opt.is, ↓Opt.no, ↓Asks.yes, ↓Asks.no, tyL, encL, asB]))
   refine ⟨_, hc3, ?_⟩; (repeat (first | refine ap (by rfl : apartB 0 _ _ = true) ?_ | refine ap (by simp [osL, D.flat]) ?_)); repeat (first | refine aq ?_ | refine ap (by rfl : apartB 0 _ _ = true) ?_ | refine ak ?_ | refine ab ?_ | refine al ?_ | ((first | refine ar ?_ | refine ad ty_mix (by kernel_rfl) ?_ | refine ac ?_ | refine ae ?_ | with_reducible refine Later.mk ?_); simp only [evD, evL, iteL, aX, St.said, St.asked, evStep, evOp, evP, St.init, St.app, srcStep, kill, setMany, loadS, fieldS, buildS, toks, Fin, upd_app, Array.isEmpty, reduceLT, reduceAdd, reduceMul, reduceLeDiff, reduceSub, reduceEqDiff, reduceCtorEq, reduceIte, ↓Opt.is, ↓Opt.no, ↓Asks.yes, ↓Asks.no, tyL, encL, asB]))
   refine Ab.ret ?_; simp only [evD, evL, iteL, aX, St.said, St.asked, evStep, evOp, evP, St.init, St.app, srcStep, kill, setMany, loadS, fieldS, buildS, toks, Fin, upd_app, Array.isEmpty, reduceLT, reduceAdd, reduceMul, reduceLeDiff, reduceSub, reduceEqDiff, reduceCtorEq, reduceIte, ↓Opt.is, ↓Opt.no, ↓Asks.yes, ↓Asks.no, tyL, List.nodup_cons, encL, Tryz.f19]
 · rw [hd] at hc1 ⊢
   rw [if_neg (by simp)]
   unfold dbS at hc1 ⊢
   refine AC.intro Tryz.func19 rfl (by decide) (by simp [S.res, S.ress]) (by simp [S.os, S.oss]) (by simp [S.wfs, S.wf, dbS]) (by simp [Tryz.f19]) ?_; rw [Tryz.ntmps19]
   repeat (first | refine aq ?_ | refine ap (by rfl : apartB 0 _ _ = true) ?_ | refine ak ?_ | refine ab ?_ | refine al ?_ | ((first | refine ar ?_ | refine ad ty_mix (by kernel_rfl) ?_ | refine ac ?_ | refine ae ?_ | with_reducible refine Later.mk ?_); simp only [evD, evL, iteL, aX, St.said, St.asked, evStep, evOp, evP, St.init, St.app, srcStep, kill, setMany, loadS, fieldS, buildS, toks, Fin, upd_app, Array.isEmpty, reduceLT, reduceAdd, reduceMul, reduceLeDiff, reduceSub, reduceEqDiff, reduceCtorEq, reduceIte, ↓Opt.is, ↓Opt.no, ↓Asks.yes, ↓Asks.no, tyL, encL, asB]))
   refine ⟨_, hc1, ?_⟩; (repeat (first | refine ap (by rfl : apartB 0 _ _ = true) ?_ | refine ap (by simp [osL, D.flat]) ?_)); repeat (first | refine aq ?_ | refine ap (by rfl : apartB 0 _ _ = true) ?_ | refine ak ?_ | refine ab ?_ | refine al ?_ | ((first | refine ar ?_ | refine ad ty_mix (by kernel_rfl) ?_ | refine ac ?_ | refine ae ?_ | with_reducible refine Later.mk ?_); simp only [evD, evL, iteL, aX, St.said, St.asked, evStep, evOp, evP, St.init, St.app, srcStep, kill, setMany, loadS, fieldS, buildS, toks, Fin, upd_app, Array.isEmpty, reduceLT, reduceAdd, reduceMul, reduceLeDiff, reduceSub, reduceEqDiff, reduceCtorEq, reduceIte, ↓Opt.is, ↓Opt.no, ↓Asks.yes, ↓Asks.no, tyL, encL, asB]))
   refine Ab.ret ?_; simp only [evD, evL, iteL, aX, St.said, St.asked, evStep, evOp, evP, St.init, St.app, srcStep, kill, setMany, loadS, fieldS, buildS, toks, Fin, upd_app, Array.isEmpty, reduceLT, reduceAdd, reduceMul, reduceLeDiff, reduceSub, reduceEqDiff, reduceCtorEq, reduceIte, ↓Opt.is, ↓Opt.no, ↓Asks.yes, ↓Asks.no, tyL, List.nodup_cons, encL, Tryz.f19]
end Ab
end

section
/- PreferredRepairs: the contracts of the layer for the law. Written by gen/backc.py. -/
open Go Go.Proofs Go.RowKit
namespace Ab
theorem _root_.Go.Proofs.YtgipcnofonejcaaGreatDoor.implPreferredRepairs_c {x0 : Dbs} {a0_0 : Option Addr} {cap0_0 : Nat} {a1_0 : Option Addr} {cap1_0 : Nat} {a1 : Option Addr} {cap1 : Nat} {l1 : List Dcn} {a2 : Option Addr} {cap2 : Nat} {l2 : List Edg} {w : World} (hz0 : sizeDatabase x0 ≤ 1048576) (hz1 : l1.length ≤ 1048576) (hz2 : l2.length ≤ 1048576) (h0 : At cDbs w x0 [.slice a0_0 x0.rels.length cap0_0, .slice a1_0 x0.facts.length cap1_0]) (h1 : At (cSlice cDcn) w l1 [.slice a1 l1.length cap1]) (h2 : At (cSlice cEdg) w l2 [.slice a2 l2.length cap2]) (hg : Glob w := by exact trivial) :
   Calls Tryz.prog 21 #[.agg #[.slice a0_0 x0.rels.length cap0_0, .slice a1_0 x0.facts.length cap1_0], .slice a1 l1.length cap1, .slice a2 l2.length cap2] w fun e w' => (∃ a cap, e = .returned (.slice a (Ab.pfrR x0 l1 l2).length cap) ∧ Own (cSlice (cSlice cInt)) w.heap.size w' (Ab.pfrR x0 l1 l2) [.slice a (Ab.pfrR x0 l1 l2).length cap]) ∧ Below w.heap.size w w' := by
 have hgood : (eSlice (eSlice eInt)).good (Ab.pfrR x0 l1 l2) := pfrR_good x0 l1 l2
 refine Calls.mono (((implPreferredRepairs_a (eDbs.gd h0) ((eSlice eDcn).gd h1) hz1 ((eSlice eEdg).gd h2) hz2)).call (cs := [_, _, _]) ?_) ?_
 · simp only [RdSs]
   exact ⟨_, _, rfl, (eDbs.argA h0), ⟨_, _, rfl, ((eSlice eDcn).arg1 (x := l1) rfl h1), ⟨_, _, rfl, ((eSlice eEdg).arg1 (x := l2) rfl h2), rfl⟩⟩⟩
 · rintro e w' ⟨c, rfl, q1, q2⟩
   obtain ⟨F, ho, _⟩ := id ((eSlice (eSlice eInt)).own1 (x := Ab.pfrR x0 l1 l2) rfl hgood q1)
   have hq := (eSlice (eSlice eInt)).own1 (x := Ab.pfrR x0 l1 l2) rfl hgood q1
   obtain ⟨a, cap, e, _⟩ := ho
   injection e with e
   subst e
   exact ⟨⟨a, cap, rfl, hq⟩, q2⟩
theorem _root_.Go.Proofs.YtgipcnofonejcaaGreatDoor.specPreferredRepairs_c {x0 : Dbs} {a0_0 : Option Addr} {cap0_0 : Nat} {a1_0 : Option Addr} {cap1_0 : Nat} {a1 : Option Addr} {cap1 : Nat} {l1 : List Dcn} {a2 : Option Addr} {cap2 : Nat} {l2 : List Edg} {w : World} (hz0 : sizeDatabase x0 ≤ 1048576) (hz1 : l1.length ≤ 1048576) (hz2 : l2.length ≤ 1048576) (h0 : At cDbs w x0 [.slice a0_0 x0.rels.length cap0_0, .slice a1_0 x0.facts.length cap1_0]) (h1 : At (cSlice cDcn) w l1 [.slice a1 l1.length cap1]) (h2 : At (cSlice cEdg) w l2 [.slice a2 l2.length cap2]) (hg : Glob w := by exact trivial) :
   Calls Tryz.prog 19 #[.agg #[.slice a0_0 x0.rels.length cap0_0, .slice a1_0 x0.facts.length cap1_0], .slice a1 l1.length cap1, .slice a2 l2.length cap2] w fun e w' => (∃ a cap, e = .returned (.slice a (Ab.pfrR x0 l1 l2).length cap) ∧ At (cSlice (cSlice cInt)) w' (Ab.pfrR x0 l1 l2) [.slice a (Ab.pfrR x0 l1 l2).length cap]) ∧ Below w.heap.size w w' := by
 have hgood : (eSlice (eSlice eInt)).good (Ab.pfrR x0 l1 l2) := pfrR_good x0 l1 l2
 refine Calls.mono (((specPreferredRepairs_a (eDbs.gd h0) ((eSlice eDcn).gd h1) hz1 ((eSlice eEdg).gd h2) hz2)).call (cs := [_, _, _]) ?_) ?_
 · simp only [RdSs]
   exact ⟨_, _, rfl, (eDbs.argA h0), ⟨_, _, rfl, ((eSlice eDcn).arg1 (x := l1) rfl h1), ⟨_, _, rfl, ((eSlice eEdg).arg1 (x := l2) rfl h2), rfl⟩⟩⟩
 · rintro e w' ⟨c, rfl, q1, q2⟩
   have hq := RdV.at1 (p := (eSlice (eSlice eInt))) (x := Ab.pfrR x0 l1 l2) rfl hgood q1 q2.size
   have ho := hq
   obtain ⟨a, cap, e, _⟩ := ho
   injection e with e
   subst e
   exact ⟨⟨a, cap, rfl, hq⟩, q2⟩
end Ab
end
end Go.Proofs.YtgipcnofonejcaaGreatDoor
