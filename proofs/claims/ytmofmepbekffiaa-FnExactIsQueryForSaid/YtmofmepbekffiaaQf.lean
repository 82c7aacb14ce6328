/- Chapter 12: IsQueryFor, the model's and the program's. -/
import Derived.Test.YtmofmepbekffiaaCon
import Derived.Test.YtmofmepbekffiaaQv3
namespace Go.Proofs.Ytmofmepbekffiaa
open Go.RowKit
set_option linter.unusedVariables false
set_option maxRecDepth 100000

set_option maxHeartbeats 3200000 in
theorem implIsQueryFor_c {a0 a1 b1 b2 : Option Addr} {cap0 cap1 c1 c2 : Nat} {x : Dbs} {q : Qry} {w : World} (h : At cDbs w x [.slice a0 x.rels.length cap0, .slice a1 x.facts.length cap1]) (h' : At cQry w q [.int .i64 q.vars, .slice b1 q.atoms.length c1, .slice b2 q.free.length c2]) :
    Calls Try.prog 26 #[.agg #[.slice a0 x.rels.length cap0, .slice a1 x.facts.length cap1], .agg #[.int .i64 q.vars, .slice b1 q.atoms.length c1, .slice b2 q.free.length c2]] w fun e w' => e = .returned (.bool (validDb x && validQ x.rels q)) ∧ Below w.heap.size w w' := by
  have H1 : Hid (∀ ww, Below w.heap.size w ww → Calls Try.prog 78 #[.agg #[.slice a0 x.rels.length cap0, .slice a1 x.facts.length cap1]] ww fun e w' => e = .returned (.bool (validDb x)) ∧ Below ww.heap.size ww w') :=
    fun ww hb => implIsValidDatabase_c (At.below h hb (Nat.le_refl _))
  have H2 : Hid (∀ ww, Below w.heap.size w ww → Calls Try.prog 20 #[.slice a0 x.rels.length cap0, .agg #[.int .i64 q.vars, .slice b1 q.atoms.length c1, .slice b2 q.free.length c2]] ww fun e w' => e = .returned (.bool (validQ x.rels q)) ∧ Below ww.heap.size ww w') :=
    fun ww hb => implIsValidQuery_c (At.below (c := cSlice cRel) (cDbs_inv h).1 hb (Nat.le_refl _)) (At.below h' hb (Nat.le_refl _))
  clear h h'
  generalize validDb x = V at *
  generalize validQ x.rels q = U at *
  obtain ⟨xr, xf⟩ := x
  obtain ⟨vars, atoms, free⟩ := q
  simp only at *
  generalize xr.length = n0 at *
  generalize xf.length = n1 at *
  generalize atoms.length = m1 at *
  generalize free.length = m2 at *
  obtain ⟨wx, hwx⟩ : ∃ wx, wx = (w.alloc (Obj.cells #[.slice a0 n0 cap0, .slice a1 n1 cap1] 46)).alloc (Obj.cells #[.int .i64 vars, .slice b1 m1 c1, .slice b2 m2 c2] 34) := ⟨_, rfl⟩
  have hb0 : Below w.heap.size w wx := by rw [hwx]; go_grown
  have q0 : wx.cell? ⟨w.heap.size, 0, none⟩ = some (.slice a0 n0 cap0) := by rw [hwx]; go_simp
  have q1 : wx.cell? ⟨w.heap.size, 1, none⟩ = some (.slice a1 n1 cap1) := by rw [hwx]; go_simp
  have p0 : wx.cell? ⟨w.heap.size + 1, 0, none⟩ = some (.int .i64 vars) := by rw [hwx]; go_simp
  have p1 : wx.cell? ⟨w.heap.size + 1, 1, none⟩ = some (.slice b1 m1 c1) := by rw [hwx]; go_simp
  have p2 : wx.cell? ⟨w.heap.size + 1, 2, none⟩ = some (.slice b2 m2 c2) := by rw [hwx]; go_simp
  have Hwx := Lib.hid hwx
  clear hwx
  go_enter Try.func26, Try.ntmps26
  go_wp2_with fail
  rw [← Hwx.out]
  clear Hwx
  refine (H1.out _ hb0).mono ?_
  rintro e w1 ⟨rfl, hb1⟩
  have hbb : Below w.heap.size w w1 := hb0.trans (hb1.mono hb0.size)
  cases V with
  | false =>
    go_wp2
    go_ret
    exact ⟨rfl, hbb⟩
  | true =>
    replace q0 := cell_next q0 hb1
    replace p0 := cell_next p0 hb1
    replace p1 := cell_next p1 hb1
    replace p2 := cell_next p2 hb1
    clear hb0 hb1 H1 q1
    go_wp2_with fail
    refine (H2.out _ hbb).mono ?_
    rintro e w2 ⟨rfl, hb2⟩
    go_wp2
    go_ret
    exact ⟨rfl, hbb.trans (hb2.mono hbb.size)⟩
set_option maxHeartbeats 3200000 in
theorem specIsQueryFor_c {a0 a1 b1 b2 : Option Addr} {cap0 cap1 c1 c2 : Nat} {x : Dbs} {q : Qry} {w : World} (h : At cDbs w x [.slice a0 x.rels.length cap0, .slice a1 x.facts.length cap1]) (h' : At cQry w q [.int .i64 q.vars, .slice b1 q.atoms.length c1, .slice b2 q.free.length c2]) :
    Calls Try.prog 24 #[.agg #[.slice a0 x.rels.length cap0, .slice a1 x.facts.length cap1], .agg #[.int .i64 q.vars, .slice b1 q.atoms.length c1, .slice b2 q.free.length c2]] w fun e w' => e = .returned (.bool (validDb x && validQ x.rels q)) ∧ Below w.heap.size w w' := by
  have H1 : Hid (∀ ww, Below w.heap.size w ww → Calls Try.prog 76 #[.agg #[.slice a0 x.rels.length cap0, .slice a1 x.facts.length cap1]] ww fun e w' => e = .returned (.bool (validDb x)) ∧ Below ww.heap.size ww w') :=
    fun ww hb => specIsValidDatabase_c (At.below h hb (Nat.le_refl _))
  have H2 : Hid (∀ ww, Below w.heap.size w ww → Calls Try.prog 17 #[.slice a0 x.rels.length cap0, .agg #[.int .i64 q.vars, .slice b1 q.atoms.length c1, .slice b2 q.free.length c2]] ww fun e w' => e = .returned (.bool (validQ x.rels q)) ∧ Below ww.heap.size ww w') :=
    fun ww hb => specIsValidQuery_c (At.below (c := cSlice cRel) (cDbs_inv h).1 hb (Nat.le_refl _)) (At.below h' hb (Nat.le_refl _))
  clear h h'
  generalize validDb x = V at *
  generalize validQ x.rels q = U at *
  obtain ⟨xr, xf⟩ := x
  obtain ⟨vars, atoms, free⟩ := q
  simp only at *
  generalize xr.length = n0 at *
  generalize xf.length = n1 at *
  generalize atoms.length = m1 at *
  generalize free.length = m2 at *
  obtain ⟨wx, hwx⟩ : ∃ wx, wx = (w.alloc (Obj.cells #[.slice a0 n0 cap0, .slice a1 n1 cap1] 46)).alloc (Obj.cells #[.int .i64 vars, .slice b1 m1 c1, .slice b2 m2 c2] 34) := ⟨_, rfl⟩
  have hb0 : Below w.heap.size w wx := by rw [hwx]; go_grown
  have q0 : wx.cell? ⟨w.heap.size, 0, none⟩ = some (.slice a0 n0 cap0) := by rw [hwx]; go_simp
  have q1 : wx.cell? ⟨w.heap.size, 1, none⟩ = some (.slice a1 n1 cap1) := by rw [hwx]; go_simp
  have p0 : wx.cell? ⟨w.heap.size + 1, 0, none⟩ = some (.int .i64 vars) := by rw [hwx]; go_simp
  have p1 : wx.cell? ⟨w.heap.size + 1, 1, none⟩ = some (.slice b1 m1 c1) := by rw [hwx]; go_simp
  have p2 : wx.cell? ⟨w.heap.size + 1, 2, none⟩ = some (.slice b2 m2 c2) := by rw [hwx]; go_simp
  have Hwx := Lib.hid hwx
  clear hwx
  go_enter Try.func24, Try.ntmps24
  go_wp2_with fail
  rw [← Hwx.out]
  clear Hwx
  refine (H1.out _ hb0).mono ?_
  rintro e w1 ⟨rfl, hb1⟩
  have hbb : Below w.heap.size w w1 := hb0.trans (hb1.mono hb0.size)
  cases V with
  | false =>
    go_wp2
    go_ret
    exact ⟨rfl, hbb⟩
  | true =>
    replace q0 := cell_next q0 hb1
    replace p0 := cell_next p0 hb1
    replace p1 := cell_next p1 hb1
    replace p2 := cell_next p2 hb1
    clear hb0 hb1 H1 q1
    go_wp2_with fail
    refine (H2.out _ hbb).mono ?_
    rintro e w2 ⟨rfl, hb2⟩
    go_wp2
    go_ret
    exact ⟨rfl, hbb.trans (hb2.mono hbb.size)⟩
end Go.Proofs.Ytmofmepbekffiaa

