/- Chapter 11: EqualQueries, the model's and the program's. -/
import Derived.Test.YtpcjhnbifgjleaaTyTre
import Derived.Test.YtpcjhnbifgjleaaKeyOne
namespace Go.Proofs.Ytpcjhnbifgjleaa
open Go.RowKit
set_option linter.unusedVariables false
set_option maxRecDepth 100000

set_option maxHeartbeats 800000 in
theorem equalAtoms_c {a1 a1' : Option Addr} {cap1 cap1' : Nat} {x y : Atm} {w : World} (h : At cAtm w x [.int .i64 x.rel, .slice a1 x.terms.length cap1]) (h' : At cAtm w y [.int .i64 y.rel, .slice a1' y.terms.length cap1']) :
    Calls Try.prog 38 #[.agg #[.int .i64 x.rel, .slice a1 x.terms.length cap1], .agg #[.int .i64 y.rel, .slice a1' y.terms.length cap1']] w fun e w' => e = .returned (.bool (decide (x = y))) ∧ Below w.heap.size w w' := by
  have He : Hid (∀ ww, Below w.heap.size w ww → Calls Try.prog 39 #[.slice a1 x.terms.length cap1, .slice a1' y.terms.length cap1'] ww fun e w' => e = .returned (.bool (decide (x.terms = y.terms))) ∧ Below ww.heap.size ww w') :=
    fun ww hb => slicesEqualInt_c (At.below (cAtm_inv h).1 hb (Nat.le_refl _)) (At.below (cAtm_inv h').1 hb (Nat.le_refl _))
  clear h h'
  obtain ⟨rx, vx⟩ := x
  obtain ⟨ry, vy⟩ := y
  have he : decide (Atm.mk rx vx = Atm.mk ry vy) = (decide (rx = ry) && decide (vx = vy)) := by
    rw [← Bool.decide_and]; congr 1; rw [Atm.mk.injEq]
  rw [he]
  clear he
  simp only at *
  generalize decide (vx = vy) = B at *
  generalize vx.length = n at *
  generalize vy.length = m at *
  by_cases hr : rx = ry
  · subst hr
    rw [decide_eq_true rfl, Bool.true_and]
    go_enter Try.func38, Try.ntmps38
    go_wp2_with fail
    refine (He.out _ ?hb).mono ?_
    case hb => go_grown
    rintro e w1 ⟨rfl, hb1⟩
    have hbb : Below w.heap.size w w1 := Below.trans (by go_grown) (hb1.mono (by simp; try omega))
    go_wp2
    go_ret
    exact ⟨rfl, hbb⟩
  · have hne : (rx == ry) = false := by simp [hr]
    rw [decide_eq_false hr, Bool.false_and]
    go_enter Try.func38, Try.ntmps38
    go_wp2
    go_ret
    exact ⟨rfl, by go_grown⟩
set_option maxHeartbeats 1600000 in
theorem slicesEqualAtoms_c {a a' : Option Addr} {cap cap' : Nat} {l m : List Atm} {w : World} (h : At (cSlice cAtm) w l [.slice a l.length cap]) (h' : At (cSlice cAtm) w m [.slice a' m.length cap']) :
    Calls Try.prog 37 #[.slice a l.length cap, .slice a' m.length cap', .func (.func 38) #[] #[]] w fun e w' => e = .returned (.bool (decide (l = m))) ∧ Below w.heap.size w w' := by
  have hm := (slice_len h).2
  have hm' := (slice_len h').2
  unfold maxLen at hm hm'
  by_cases hne : l.length = m.length
  · obtain ⟨n, hn⟩ : ∃ n : Nat, l.length = n := ⟨_, rfl⟩
    have Hr : Hid (∀ w' : World, Below w.heap.size w w' → ∀ j (hj : j < l.length), _) := fun w' hb j hj => at_Atom (Cod.ok_below h hb) j hj
    have Hr' : Hid (∀ w' : World, Below w.heap.size w w' → ∀ j (hj : j < m.length), _) := fun w' hb j hj => at_Atom (Cod.ok_below h' hb) j hj
    clear h h'
    rw [← hne, hn]
    have Hn := Lib.hid hn
    have Hm : Hid (m.length = n) := by rw [← hne]; exact hn
    have hm2 : n ≤ 9223372036854775807 := by omega
    generalize hR : decide (l = m) = R
    have HR : Hid (decide (l.drop 0 = m.drop 0) = R) := hR
    clear hR hne hn hm hm'
    go_enter Try.func37, Try.ntmps37
    go_wp2
    go_loopw [17] (fun iv wr => ∃ k : Nat, k ≤ n ∧ iv = .int .i64 k ∧ Hid (decide (l.drop k = m.drop k) = R) ∧ Below w.heap.size w wr) (fun iv _ => n - (intOf iv).toNat)
    case atStart => exact ⟨0, by omega, by go_num, HR, Below.refl _ _⟩
    case round =>
      clear HR
      obtain ⟨k, hk, rfl, Hq, hb⟩ := hrel
      by_cases hlt : k < n
      · have hkl : k < l.length := by rw [Hn.out]; exact hlt
        have hkm : k < m.length := by rw [Hm.out]; exact hlt
        have Hst : Hid (R = (decide (l[k] = m[k]) && decide (l.drop (k + 1) = m.drop (k + 1)))) := by
          show R = _
          rw [← Hq.out, ← Bool.decide_and]; congr 1; rw [List.drop_eq_getElem_cons hkl, List.drop_eq_getElem_cons hkm, List.cons.injEq]
        obtain ⟨b, off, av, cv, rfl, hbB, c0, c1, hx⟩ := Hr.out _ hb k hkl
        obtain ⟨b', off', av', cv', rfl, hbB', d0, d1, hy⟩ := Hr'.out _ hb k hkm
        have hA : At cAtm wr l[k] [.int .i64 l[k].rel, .slice av l[k].terms.length cv] := cAtm.keep hx (fun _ _ => rfl) hb.size
        have hA' : At cAtm wr m[k] [.int .i64 m[k].rel, .slice av' m[k].terms.length cv'] := cAtm.keep hy (fun _ _ => rfl) hb.size
        have Hc : Hid (∀ ww, Below wr.heap.size wr ww → Calls Try.prog 38 #[.agg #[.int .i64 l[k].rel, .slice av l[k].terms.length cv], .agg #[.int .i64 m[k].rel, .slice av' m[k].terms.length cv']] ww fun e w' => e = .returned (.bool (decide (l[k] = m[k]))) ∧ Below ww.heap.size ww w') :=
          fun ww hw2 => equalAtoms_c (At.below hA hw2 (Nat.le_refl _)) (At.below hA' hw2 (Nat.le_refl _))
        clear hx hy hA hA' Hq
        generalize decide (l[k] = m[k]) = z at *
        generalize l[k] = r at *
        generalize m[k] = r' at *
        have l0 := World.block_lt_of_cell? wr _ c0
        have l1 := World.block_lt_of_cell? wr _ d0
        simp only at l0 l1
        cases z with
        | true =>
          go_wp2_with fail
          refine (Hc.out _ ?hb).mono ?_
          case hb => go_grown
          rintro e w2 ⟨rfl, hb2⟩
          have hbr : Below wr.heap.size wr w2 := Below.trans (by go_grown) (hb2.mono (by simp; try omega))
          go_wp2
          go_roundw
          case rel => exact ⟨k + 1, by omega, by go_num, by have h := Hst.out; rw [Bool.true_and] at h; exact h.symm, hb.trans (hbr.mono hb.size)⟩
          case measure => simp [intOf]; omega
        | false =>
          have hR : R = false := by have h := Hst.out; rw [Bool.false_and] at h; exact h
          go_wp2_with fail
          refine (Hc.out _ ?hb).mono ?_
          case hb => go_grown
          rintro e w2 ⟨rfl, hb2⟩
          have hbr : Below wr.heap.size wr w2 := Below.trans (by go_grown) (hb2.mono (by simp; try omega))
          go_wp2
          go_ret
          exact ⟨by rw [hR]; rfl, hb.trans (hbr.mono hb.size)⟩
      · obtain rfl : k = n := by omega
        have hR : R = true := by
          have := Hq.out
          rw [List.drop_eq_nil_of_le (by rw [Hn.out]; exact Nat.le_refl _), List.drop_eq_nil_of_le (by rw [Hm.out]; exact Nat.le_refl _)] at this
          simpa using this.symm
        go_wp2
        go_ret
        exact ⟨by rw [hR]; rfl, hb⟩
  · rw [decide_eq_false (fun e => hne (by rw [e]))]
    have hne2 : (l.length != m.length) = true := by simpa using hne
    go_enter Try.func37, Try.ntmps37
    go_wp2
    go_ret
    exact ⟨rfl, Below.refl _ _⟩
/-- EqualQueries' answer. -/
def eqQry (x y : Qry) : Bool := decide (x.vars = y.vars) && (decide (x.atoms = y.atoms) && decide (x.free = y.free))
set_option maxHeartbeats 1600000 in
theorem implEqualQueries_c {a1 a2 : Option Addr} {cap1 cap2 : Nat} {x : Qry} {b1 b2 : Option Addr} {cb1 cb2 : Nat} {y : Qry} {w : World} (h : At cQry w x [.int .i64 x.vars, .slice a1 x.atoms.length cap1, .slice a2 x.free.length cap2]) (h' : At cQry w y [.int .i64 y.vars, .slice b1 y.atoms.length cb1, .slice b2 y.free.length cb2]) :
    Calls Try.prog 19 #[.agg #[.int .i64 x.vars, .slice a1 x.atoms.length cap1, .slice a2 x.free.length cap2], .agg #[.int .i64 y.vars, .slice b1 y.atoms.length cb1, .slice b2 y.free.length cb2]] w fun e w' => e = .returned (.bool (eqQry x y)) ∧ Below w.heap.size w w' := by
  have H1 : Hid (∀ ww, Below w.heap.size w ww → Calls Try.prog 37 #[.slice a1 x.atoms.length cap1, .slice b1 y.atoms.length cb1, .func (.func 38) #[] #[]] ww fun e w' => e = .returned (.bool (decide (x.atoms = y.atoms))) ∧ Below ww.heap.size ww w') :=
    fun ww hb => slicesEqualAtoms_c (At.below (cQry_inv h).1 hb (Nat.le_refl _)) (At.below (cQry_inv h').1 hb (Nat.le_refl _))
  have H2 : Hid (∀ ww, Below w.heap.size w ww → Calls Try.prog 39 #[.slice a2 x.free.length cap2, .slice b2 y.free.length cb2] ww fun e w' => e = .returned (.bool (decide (x.free = y.free))) ∧ Below ww.heap.size ww w') :=
    fun ww hb => slicesEqualInt_c (At.below (cQry_inv h).2.1 hb (Nat.le_refl _)) (At.below (cQry_inv h').2.1 hb (Nat.le_refl _))
  clear h h'
  unfold eqQry
  generalize decide (x.atoms = y.atoms) = V at *
  generalize decide (x.free = y.free) = U at *
  obtain ⟨vx, xa, xf⟩ := x
  obtain ⟨vy, ya, yf⟩ := y
  simp only at *
  generalize xa.length = n1 at *
  generalize xf.length = n2 at *
  generalize ya.length = m1 at *
  generalize yf.length = m2 at *
  by_cases hv : vx = vy
  · subst hv
    rw [decide_eq_true rfl, Bool.true_and]
    obtain ⟨wx, hwx⟩ : ∃ wx, wx = (w.alloc (Obj.cells #[.int .i64 vx, .slice a1 n1 cap1, .slice a2 n2 cap2] 41)).alloc (Obj.cells #[.int .i64 vx, .slice b1 m1 cb1, .slice b2 m2 cb2] 41) := ⟨_, rfl⟩
    have hb0 : Below w.heap.size w wx := by rw [hwx]; go_grown
    have p0 : wx.cell? ⟨w.heap.size, 0, none⟩ = some (.int .i64 vx) := by rw [hwx]; go_simp
    have p1 : wx.cell? ⟨w.heap.size, 1, none⟩ = some (.slice a1 n1 cap1) := by rw [hwx]; go_simp
    have p2 : wx.cell? ⟨w.heap.size, 2, none⟩ = some (.slice a2 n2 cap2) := by rw [hwx]; go_simp
    have r0 : wx.cell? ⟨w.heap.size + 1, 0, none⟩ = some (.int .i64 vx) := by rw [hwx]; go_simp
    have r1 : wx.cell? ⟨w.heap.size + 1, 1, none⟩ = some (.slice b1 m1 cb1) := by rw [hwx]; go_simp
    have r2 : wx.cell? ⟨w.heap.size + 1, 2, none⟩ = some (.slice b2 m2 cb2) := by rw [hwx]; go_simp
    have Hwx := Lib.hid hwx
    clear hwx
    go_enter Try.func19, Try.ntmps19
    go_wp2_with fail
    rw [← Hwx.out]
    clear Hwx
    refine (H1.out _ hb0).mono ?_
    rintro e w1 ⟨rfl, hb1⟩
    have hbb : Below w.heap.size w w1 := hb0.trans (hb1.mono hb0.size)
    cases V with
    | false =>
      go_wp2
      go_ret
      exact ⟨rfl, hbb⟩
    | true =>
      replace p2 := cell_next p2 hb1
      replace r2 := cell_next r2 hb1
      clear hb0 hb1 H1 p0 r0 p1 r1
      go_wp2_with fail
      refine (H2.out _ hbb).mono ?_
      rintro e w2 ⟨rfl, hb2⟩
      go_wp2
      go_ret
      exact ⟨rfl, hbb.trans (hb2.mono hbb.size)⟩
  · have hne : (vx == vy) = false := by simp [hv]
    rw [decide_eq_false hv, Bool.false_and]
    clear H1 H2
    go_enter Try.func19, Try.ntmps19
    go_wp2
    go_ret
    exact ⟨rfl, by go_grown⟩

theorem cmpL_beq (a b : List Int) : (cmpL a b == 0) = decide (a = b) := by
  by_cases h : a = b
  · rw [decide_eq_true h, (cmpL_zero a b).2 h]; rfl
  · have h2 : cmpL a b ≠ 0 := fun h3 => h ((cmpL_zero a b).1 h3)
    rw [decide_eq_false h]; simp [h2]
set_option maxHeartbeats 3200000 in
theorem specEqualQueries_c {a1 a2 : Option Addr} {cap1 cap2 : Nat} {x : Qry} {b1 b2 : Option Addr} {cb1 cb2 : Nat} {y : Qry} {w : World} (h : At cQry w x [.int .i64 x.vars, .slice a1 x.atoms.length cap1, .slice a2 x.free.length cap2]) (h' : At cQry w y [.int .i64 y.vars, .slice b1 y.atoms.length cb1, .slice b2 y.free.length cb2]) :
    Calls Try.prog 13 #[.agg #[.int .i64 x.vars, .slice a1 x.atoms.length cap1, .slice a2 x.free.length cap2], .agg #[.int .i64 y.vars, .slice b1 y.atoms.length cb1, .slice b2 y.free.length cb2]] w fun e w' => e = .returned (.bool (eqQry x y)) ∧ Below w.heap.size w w' := by
  have hx1 := (cQry_inv h).1
  have hx2 := (cQry_inv h).2.1
  have hy1 := (cQry_inv h').1
  have hy2 := (cQry_inv h').2.1
  have hm1 := (slice_len hx1).2
  have hm1' := (slice_len hy1).2
  unfold maxLen at hm1 hm1'
  have HF : Hid (∀ w' : World, Below w.heap.size w w' → ∀ j (hj : j < x.atoms.length), _) := fun w' hb j hj => at_Atom (Cod.ok_below hx1 hb) j hj
  have HF' : Hid (∀ w' : World, Below w.heap.size w w' → ∀ j (hj : j < y.atoms.length), _) := fun w' hb j hj => at_Atom (Cod.ok_below hy1 hb) j hj
  have H2 : Hid (∀ ww, Below w.heap.size w ww → Calls Try.prog 29 #[.slice a2 x.free.length cap2, .slice b2 y.free.length cb2] ww fun e w' => e = .returned (.int .i64 (cmpL x.free y.free)) ∧ Below ww.heap.size ww w') :=
    fun ww hb => specl3Ints_c (At.below hx2 hb (Nat.le_refl _)) (At.below hy2 hb (Nat.le_refl _))
  have Hz2 := Lib.hid (cmpL_beq x.free y.free)
  clear h h' hx1 hx2 hy1 hy2
  unfold eqQry
  generalize decide (x.free = y.free) = U at *
  generalize cmpL x.free y.free = z2 at *
  obtain ⟨vx, f, xf⟩ := x
  obtain ⟨vy, g, yf⟩ := y
  simp only at *
  generalize xf.length = n2 at *
  generalize yf.length = m2 at *
  by_cases hv : vx = vy
  · subst hv
    rw [decide_eq_true rfl, Bool.true_and]
    cases U with
    | false =>
      rw [Bool.and_false]
      have hzz : (z2 != 0) = true := by have := Hz2.out; simp at this; simp [this]
      clear HF HF' Hz2
      generalize f.length = n1 at *
      generalize g.length = m1 at *
      obtain ⟨wx, hwx⟩ : ∃ wx, wx = (w.alloc (Obj.cells #[.int .i64 vx, .slice a1 n1 cap1, .slice a2 n2 cap2] 41)).alloc (Obj.cells #[.int .i64 vx, .slice b1 m1 cb1, .slice b2 m2 cb2] 41) := ⟨_, rfl⟩
      have hb0 : Below w.heap.size w wx := by rw [hwx]; go_grown
      have p0 : wx.cell? ⟨w.heap.size, 0, none⟩ = some (.int .i64 vx) := by rw [hwx]; go_simp
      have p1 : wx.cell? ⟨w.heap.size, 1, none⟩ = some (.slice a1 n1 cap1) := by rw [hwx]; go_simp
      have p2 : wx.cell? ⟨w.heap.size, 2, none⟩ = some (.slice a2 n2 cap2) := by rw [hwx]; go_simp
      have r0 : wx.cell? ⟨w.heap.size + 1, 0, none⟩ = some (.int .i64 vx) := by rw [hwx]; go_simp
      have r1 : wx.cell? ⟨w.heap.size + 1, 1, none⟩ = some (.slice b1 m1 cb1) := by rw [hwx]; go_simp
      have r2 : wx.cell? ⟨w.heap.size + 1, 2, none⟩ = some (.slice b2 m2 cb2) := by rw [hwx]; go_simp
      have Hwx := Lib.hid hwx
      clear hwx
      go_enter Try.func13, Try.ntmps13
      go_wp2_with fail
      rw [← Hwx.out]
      clear Hwx
      refine (H2.out _ hb0).mono ?_
      rintro e w1 ⟨rfl, hb1⟩
      go_wp2
      go_ret
      exact ⟨rfl, hb0.trans (hb1.mono hb0.size)⟩
    | true =>
      rw [Bool.and_true]
      have hz0 : z2 = 0 := by have := Hz2.out; simpa using this
      subst hz0
      clear Hz2
      by_cases hnf : f.length = g.length
      · obtain ⟨q, hq⟩ : ∃ n : Nat, f.length = n := ⟨_, rfl⟩
        have Hq := Lib.hid hq
        have Hg : Hid (g.length = q) := by rw [← hnf]; exact hq
        rw [hq] at hm1 ⊢
        rw [← hnf, hq] at hm1' ⊢
        generalize hT : decide (f = g) = T
        have HT : Hid (decide (f.drop 0 = g.drop 0) = T) := hT
        clear hT hnf hq
        obtain ⟨wx, hwx⟩ : ∃ wx, wx = (w.alloc (Obj.cells #[.int .i64 vx, .slice a1 q cap1, .slice a2 n2 cap2] 41)).alloc (Obj.cells #[.int .i64 vx, .slice b1 q cb1, .slice b2 m2 cb2] 41) := ⟨_, rfl⟩
        have hb0 : Below w.heap.size w wx := by rw [hwx]; go_grown
        have p0 : wx.cell? ⟨w.heap.size, 0, none⟩ = some (.int .i64 vx) := by rw [hwx]; go_simp
        have p1 : wx.cell? ⟨w.heap.size, 1, none⟩ = some (.slice a1 q cap1) := by rw [hwx]; go_simp
        have p2 : wx.cell? ⟨w.heap.size, 2, none⟩ = some (.slice a2 n2 cap2) := by rw [hwx]; go_simp
        have r0 : wx.cell? ⟨w.heap.size + 1, 0, none⟩ = some (.int .i64 vx) := by rw [hwx]; go_simp
        have r1 : wx.cell? ⟨w.heap.size + 1, 1, none⟩ = some (.slice b1 q cb1) := by rw [hwx]; go_simp
        have r2 : wx.cell? ⟨w.heap.size + 1, 2, none⟩ = some (.slice b2 m2 cb2) := by rw [hwx]; go_simp
        have Hwx := Lib.hid hwx
        clear hwx
        go_enter Try.func13, Try.ntmps13
        go_wp2_with fail
        rw [← Hwx.out]
        clear Hwx
        refine (H2.out _ hb0).mono ?_
        rintro e wq ⟨rfl, hb1⟩
        have hb : Below w.heap.size w wq := hb0.trans (hb1.mono hb0.size)
        have P1 := cell_next p1 hb1
        have Q1 := cell_next r1 hb1
        clear p0 p1 p2 r0 r1 r2 hb0 hb1 H2
        go_wp2
        go_loopw [5] (fun iv wr => ∃ k : Nat, k ≤ q ∧ iv = .int .i64 k ∧ Hid (decide (f.drop k = g.drop k) = T) ∧ Below wq.heap.size wq wr) (fun iv _ => q - (intOf iv).toNat)
        case atStart => exact ⟨0, by omega, by go_num, HT, Below.refl _ _⟩
        case round =>
          clear HT
          obtain ⟨j, hj, rfl, Hj, hby⟩ := hrel
          have hb2 : Below w.heap.size w wr := hb.trans (hby.mono hb.size)
          replace P1 := (hby.cell (World.block_lt_of_cell? wq _ P1)).trans P1
          replace Q1 := (hby.cell (World.block_lt_of_cell? wq _ Q1)).trans Q1
          by_cases hlt : j < q
          · have hkl : j < f.length := by rw [Hq.out]; exact hlt
            have hkm : j < g.length := by rw [Hg.out]; exact hlt
            have Hst : Hid (T = (decide (f[j] = g[j]) && decide (f.drop (j + 1) = g.drop (j + 1)))) := by
              show T = _
              rw [← Hj.out, ← Bool.decide_and]; congr 1; rw [List.drop_eq_getElem_cons hkl, List.drop_eq_getElem_cons hkm, List.cons.injEq]
            obtain ⟨b, off, av, cv, rfl, hbB, c0, c1, hx⟩ := HF.out _ hb2 j hkl
            obtain ⟨b', off', av', cv', rfl, hbB', d0, d1, hy⟩ := HF'.out _ hb2 j hkm
            have hA : At (cSlice cInt) wr f[j].terms [.slice av f[j].terms.length cv] := (cSlice cInt).keep (cAtm_inv hx).1 (fun _ _ => rfl) hb2.size
            have hA' : At (cSlice cInt) wr g[j].terms [.slice av' g[j].terms.length cv'] := (cSlice cInt).keep (cAtm_inv hy).1 (fun _ _ => rfl) hb2.size
            have Hc : Hid (∀ ww, Below wr.heap.size wr ww → Calls Try.prog 29 #[.slice av f[j].terms.length cv, .slice av' g[j].terms.length cv'] ww fun e w' => e = .returned (.int .i64 (cmpL f[j].terms g[j].terms)) ∧ Below ww.heap.size ww w') :=
              fun ww hw2 => specl3Ints_c (At.below hA hw2 (Nat.le_refl _)) (At.below hA' hw2 (Nat.le_refl _))
            have Hz := Lib.hid (cmpL_beq f[j].terms g[j].terms)
            have C0 := grow_cell c0
            have C1 := grow_cell c1
            have D0 := grow_cell d0
            have D1 := grow_cell d1
            have E0 := grow_cell P1
            have F0 := grow_cell Q1
            clear hx hy hA hA' Hj c0 c1 d0 d1
            generalize f[j] = r at *
            generalize g[j] = r' at *
            obtain ⟨rr, rt⟩ := r
            obtain ⟨sr, stt⟩ := r'
            have Hst2 : Hid (T = ((decide (rr = sr) && decide (rt = stt)) && decide (f.drop (j + 1) = g.drop (j + 1)))) := by
              have h3 := Hst.out
              have he : decide (Atm.mk rr rt = Atm.mk sr stt) = (decide (rr = sr) && decide (rt = stt)) := by
                rw [← Bool.decide_and]; congr 1; rw [Atm.mk.injEq]
              rw [he] at h3
              exact h3
            clear Hst
            simp only at *
            generalize cmpL rt stt = zz at *
            generalize decide (rt = stt) = z at *
            generalize rt.length = la at *
            generalize stt.length = lb at *
            by_cases hrr : rr = sr
            · subst hrr
              rw [decide_eq_true rfl, Bool.true_and] at Hst2
              cases z with
              | true =>
                have hz0 : zz = 0 := by have := Hz.out; simpa using this
                subst hz0
                go_wp2_with fail
                refine wp_region_grow (by kernel_rfl) (by kernel_rfl) ?_
                repeat (go_big_quiet_step ((go_at_call 29; exact Calls.grow fun ww h => Hc.out ww h)))
                refine wpQuiet_nil ?_
                rintro _ ⟨nq, rfl⟩
                go_wp2
                go_roundw
                case rel => exact ⟨j + 1, by omega, by go_num, by have h := Hst2.out; rw [Bool.true_and] at h; exact h.symm, hby.trans (nq.below.mono hby.size)⟩
                case measure => simp [intOf]; omega
              | false =>
                have hzz : (zz != 0) = true := by have := Hz.out; simp at this; simp [this]
                have hT : T = false := by have h := Hst2.out; rw [Bool.false_and] at h; exact h
                go_wp2_with fail
                refine wp_region_grow (by kernel_rfl) (by kernel_rfl) ?_
                repeat (go_big_quiet_step ((go_at_call 29; exact Calls.grow fun ww h => Hc.out ww h)))
                refine wpQuiet_nil ?_
                rintro _ ⟨nq, rfl⟩
                go_wp2
                go_ret
                exact ⟨by rw [hT]; rfl, hb2.trans (nq.below.mono hb2.size)⟩
            · have hne : (rr != sr) = true := by simp [hrr]
              have hT : T = false := by have h := Hst2.out; rw [decide_eq_false hrr, Bool.false_and, Bool.false_and] at h; exact h
              clear hrr
              go_wp2_with fail
              refine wp_region_grow (by kernel_rfl) (by kernel_rfl) ?_
              repeat (go_big_quiet_step (fail))
              refine wpQuiet_nil ?_
              rintro _ ⟨nq, rfl⟩
              go_wp2
              go_ret
              exact ⟨by rw [hT]; rfl, hb2.trans (nq.below.mono hb2.size)⟩
          · obtain rfl : j = q := by omega
            have hT : T = true := by
              have := Hj.out
              rw [List.drop_eq_nil_of_le (by rw [Hq.out]; exact Nat.le_refl _), List.drop_eq_nil_of_le (by rw [Hg.out]; exact Nat.le_refl _)] at this
              simpa using this.symm
            go_wp2
            go_ret
            exact ⟨by rw [hT]; rfl, hb2⟩
      · rw [decide_eq_false (p := f = g) (fun e => hnf (by rw [e]))]
        have hne2 : (f.length != g.length) = true := by simpa using hnf
        clear HF HF' hnf
        generalize f.length = n1 at *
        generalize g.length = m1 at *
        obtain ⟨wx, hwx⟩ : ∃ wx, wx = (w.alloc (Obj.cells #[.int .i64 vx, .slice a1 n1 cap1, .slice a2 n2 cap2] 41)).alloc (Obj.cells #[.int .i64 vx, .slice b1 m1 cb1, .slice b2 m2 cb2] 41) := ⟨_, rfl⟩
        have hb0 : Below w.heap.size w wx := by rw [hwx]; go_grown
        have p0 : wx.cell? ⟨w.heap.size, 0, none⟩ = some (.int .i64 vx) := by rw [hwx]; go_simp
        have p1 : wx.cell? ⟨w.heap.size, 1, none⟩ = some (.slice a1 n1 cap1) := by rw [hwx]; go_simp
        have p2 : wx.cell? ⟨w.heap.size, 2, none⟩ = some (.slice a2 n2 cap2) := by rw [hwx]; go_simp
        have r0 : wx.cell? ⟨w.heap.size + 1, 0, none⟩ = some (.int .i64 vx) := by rw [hwx]; go_simp
        have r1 : wx.cell? ⟨w.heap.size + 1, 1, none⟩ = some (.slice b1 m1 cb1) := by rw [hwx]; go_simp
        have r2 : wx.cell? ⟨w.heap.size + 1, 2, none⟩ = some (.slice b2 m2 cb2) := by rw [hwx]; go_simp
        have Hwx := Lib.hid hwx
        clear hwx
        go_enter Try.func13, Try.ntmps13
        go_wp2_with fail
        rw [← Hwx.out]
        clear Hwx
        refine (H2.out _ hb0).mono ?_
        rintro e w1 ⟨rfl, hb1⟩
        have P1 := cell_next p1 hb1
        have Q1 := cell_next r1 hb1
        go_wp2
        go_ret
        exact ⟨rfl, hb0.trans (hb1.mono hb0.size)⟩
  · have hne : (vx != vy) = true := by simp [hv]
    rw [decide_eq_false hv, Bool.false_and]
    clear HF HF' H2 Hz2
    generalize f.length = n1 at *
    generalize g.length = m1 at *
    go_enter Try.func13, Try.ntmps13
    go_wp2
    go_ret
    exact ⟨rfl, by go_grown⟩
end Go.Proofs.Ytpcjhnbifgjleaa

