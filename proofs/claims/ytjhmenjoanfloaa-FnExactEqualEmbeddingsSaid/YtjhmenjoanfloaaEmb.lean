/- Chapter 12: EqualEmbeddings, the model's and the program's. -/
import Derived.Test.YtjhmenjoanfloaaTyI
import Derived.Test.YtjhmenjoanfloaaEq
import Derived.Test.YtjhmenjoanfloaaOrd
namespace Go.Proofs.Ytjhmenjoanfloaa
open Go.RowKit
set_option linter.unusedVariables false
set_option maxRecDepth 100000

/-- EqualEmbeddings' answer. -/
def eqEmb (x y : Emb) : Bool := decide (x.vals = y.vals) && decide (x.facts = y.facts)
theorem cmpL_beqE (a b : List Int) : (cmpL a b == 0) = decide (a = b) := by
  rw [Bool.eq_iff_iff, beq_iff_eq, decide_eq_true_iff]
  exact cmpL_zero a b
set_option maxHeartbeats 1600000 in
theorem implEqualEmbeddings_c {a0 a1 : Option Addr} {cap0 cap1 : Nat} {x : Emb} {b0 b1 : Option Addr} {cb0 cb1 : Nat} {y : Emb} {w : World} (h : At cEmb w x [.slice a0 x.vals.length cap0, .slice a1 x.facts.length cap1]) (h' : At cEmb w y [.slice b0 y.vals.length cb0, .slice b1 y.facts.length cb1]) :
    Calls Try.prog 18 #[.agg #[.slice a0 x.vals.length cap0, .slice a1 x.facts.length cap1], .agg #[.slice b0 y.vals.length cb0, .slice b1 y.facts.length cb1]] w fun e w' => e = .returned (.bool (eqEmb x y)) ∧ Below w.heap.size w w' := by
  have H1 : Hid (∀ ww, Below w.heap.size w ww → Calls Try.prog 64 #[.slice a0 x.vals.length cap0, .slice b0 y.vals.length cb0] ww fun e w' => e = .returned (.bool (decide (x.vals = y.vals))) ∧ Below ww.heap.size ww w') :=
    fun ww hb => slicesEqualInt_c (At.below (cEmb_inv h).1 hb (Nat.le_refl _)) (At.below (cEmb_inv h').1 hb (Nat.le_refl _))
  have H2 : Hid (∀ ww, Below w.heap.size w ww → Calls Try.prog 64 #[.slice a1 x.facts.length cap1, .slice b1 y.facts.length cb1] ww fun e w' => e = .returned (.bool (decide (x.facts = y.facts))) ∧ Below ww.heap.size ww w') :=
    fun ww hb => slicesEqualInt_c (At.below (cEmb_inv h).2 hb (Nat.le_refl _)) (At.below (cEmb_inv h').2 hb (Nat.le_refl _))
  clear h h'
  unfold eqEmb
  generalize decide (x.vals = y.vals) = V at *
  generalize decide (x.facts = y.facts) = U at *
  generalize x.vals.length = n1 at *
  generalize x.facts.length = n2 at *
  generalize y.vals.length = m1 at *
  generalize y.facts.length = m2 at *
  obtain ⟨wx, hwx⟩ : ∃ wx, wx = (w.alloc (Obj.cells #[.slice a0 n1 cap0, .slice a1 n2 cap1] 27)).alloc (Obj.cells #[.slice b0 m1 cb0, .slice b1 m2 cb1] 27) := ⟨_, rfl⟩
  have hb0 : Below w.heap.size w wx := by rw [hwx]; go_grown
  have p0 : wx.cell? ⟨w.heap.size, 0, none⟩ = some (.slice a0 n1 cap0) := by rw [hwx]; go_simp
  have p1 : wx.cell? ⟨w.heap.size, 1, none⟩ = some (.slice a1 n2 cap1) := by rw [hwx]; go_simp
  have r0 : wx.cell? ⟨w.heap.size + 1, 0, none⟩ = some (.slice b0 m1 cb0) := by rw [hwx]; go_simp
  have r1 : wx.cell? ⟨w.heap.size + 1, 1, none⟩ = some (.slice b1 m2 cb1) := by rw [hwx]; go_simp
  have Hwx := Lib.hid hwx
  clear hwx
  cases V with
  | false =>
    rw [Bool.false_and]
    go_enter Try.func18, Try.ntmps18
    go_wp2_with fail
    rw [← Hwx.out]
    clear Hwx
    refine (H1.out _ hb0).mono ?_
    rintro e w1 ⟨rfl, hb1⟩
    have hbb := Below.next hb0 hb1
    go_wp2
    go_ret
    exact ⟨rfl, hbb⟩
  | true =>
    rw [Bool.true_and]
    go_enter Try.func18, Try.ntmps18
    go_wp2_with fail
    rw [← Hwx.out]
    clear Hwx
    refine (H1.out _ hb0).mono ?_
    rintro e w1 ⟨rfl, hb1⟩
    have hbb := Below.next hb0 hb1
    replace p1 := cell_next p1 hb1
    replace r1 := cell_next r1 hb1
    go_wp2_with fail
    refine (H2.out _ hbb).mono ?_
    rintro e w2 ⟨rfl, hb2⟩
    have hbc := Below.next hbb hb2
    go_wp2
    go_ret
    exact ⟨rfl, hbc⟩
set_option maxHeartbeats 1600000 in
theorem specEqualEmbeddings_c {a0 a1 : Option Addr} {cap0 cap1 : Nat} {x : Emb} {b0 b1 : Option Addr} {cb0 cb1 : Nat} {y : Emb} {w : World} (h : At cEmb w x [.slice a0 x.vals.length cap0, .slice a1 x.facts.length cap1]) (h' : At cEmb w y [.slice b0 y.vals.length cb0, .slice b1 y.facts.length cb1]) :
    Calls Try.prog 16 #[.agg #[.slice a0 x.vals.length cap0, .slice a1 x.facts.length cap1], .agg #[.slice b0 y.vals.length cb0, .slice b1 y.facts.length cb1]] w fun e w' => e = .returned (.bool (eqEmb x y)) ∧ Below w.heap.size w w' := by
  have H1 : Hid (∀ ww, Below w.heap.size w ww → Calls Try.prog 63 #[.slice a0 x.vals.length cap0, .slice b0 y.vals.length cb0] ww fun e w' => e = .returned (.int .i64 (cmpL x.vals y.vals)) ∧ Below ww.heap.size ww w') :=
    fun ww hb => specl3Ints_c (At.below (cEmb_inv h).1 hb (Nat.le_refl _)) (At.below (cEmb_inv h').1 hb (Nat.le_refl _))
  have H2 : Hid (∀ ww, Below w.heap.size w ww → Calls Try.prog 63 #[.slice a1 x.facts.length cap1, .slice b1 y.facts.length cb1] ww fun e w' => e = .returned (.int .i64 (cmpL x.facts y.facts)) ∧ Below ww.heap.size ww w') :=
    fun ww hb => specl3Ints_c (At.below (cEmb_inv h).2 hb (Nat.le_refl _)) (At.below (cEmb_inv h').2 hb (Nat.le_refl _))
  clear h h'
  unfold eqEmb
  rw [← cmpL_beqE, ← cmpL_beqE]
  generalize cmpL x.vals y.vals = V at *
  generalize cmpL x.facts y.facts = U at *
  generalize x.vals.length = n1 at *
  generalize x.facts.length = n2 at *
  generalize y.vals.length = m1 at *
  generalize y.facts.length = m2 at *
  obtain ⟨wx, hwx⟩ : ∃ wx, wx = (w.alloc (Obj.cells #[.slice a0 n1 cap0, .slice a1 n2 cap1] 27)).alloc (Obj.cells #[.slice b0 m1 cb0, .slice b1 m2 cb1] 27) := ⟨_, rfl⟩
  have hb0 : Below w.heap.size w wx := by rw [hwx]; go_grown
  have p0 : wx.cell? ⟨w.heap.size, 0, none⟩ = some (.slice a0 n1 cap0) := by rw [hwx]; go_simp
  have p1 : wx.cell? ⟨w.heap.size, 1, none⟩ = some (.slice a1 n2 cap1) := by rw [hwx]; go_simp
  have r0 : wx.cell? ⟨w.heap.size + 1, 0, none⟩ = some (.slice b0 m1 cb0) := by rw [hwx]; go_simp
  have r1 : wx.cell? ⟨w.heap.size + 1, 1, none⟩ = some (.slice b1 m2 cb1) := by rw [hwx]; go_simp
  have Hwx := Lib.hid hwx
  clear hwx
  by_cases hV : V = 0
  · have hVb : (V == 0) = true := by simp [hV]
    rw [hVb, Bool.true_and]
    go_enter Try.func16, Try.ntmps16
    go_wp2_with fail
    rw [← Hwx.out]
    clear Hwx
    refine (H1.out _ hb0).mono ?_
    rintro e w1 ⟨rfl, hb1⟩
    have hbb := Below.next hb0 hb1
    replace p1 := cell_next p1 hb1
    replace r1 := cell_next r1 hb1
    go_wp2_with fail
    refine (H2.out _ hbb).mono ?_
    rintro e w2 ⟨rfl, hb2⟩
    have hbc := Below.next hbb hb2
    go_wp2
    go_ret
    exact ⟨rfl, hbc⟩
  · have hVb : (V == 0) = false := by simp [hV]
    rw [hVb, Bool.false_and]
    go_enter Try.func16, Try.ntmps16
    go_wp2_with fail
    rw [← Hwx.out]
    clear Hwx
    refine (H1.out _ hb0).mono ?_
    rintro e w1 ⟨rfl, hb1⟩
    have hbb := Below.next hb0 hb1
    go_wp2
    go_ret
    exact ⟨rfl, hbb⟩
end Go.Proofs.Ytjhmenjoanfloaa

