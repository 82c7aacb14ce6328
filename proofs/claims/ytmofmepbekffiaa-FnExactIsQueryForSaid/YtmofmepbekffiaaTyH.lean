/- Structs: readings, the laws' helpers on them (size, copy, equality). -/
import Derived.Test.YtmofmepbekffiaaTyG
namespace Go.Proofs.Ytmofmepbekffiaa
open Go.RowKit
set_option linter.unusedVariables false
set_option maxRecDepth 100000

/-- A query: its number of variables, its atoms, its free variables. -/
structure Qry where
  vars : Int
  atoms : List Atm
  free : List Int
deriving DecidableEq
def cQry : Cod Qry := cMap (fun x => (x.vars, (x.atoms, x.free))) (cPair cInt (cPair (cSlice cAtm) (cSlice cInt)))
theorem cQry_fields {B : Nat} {w : World} {x : Qry} {cs : List Value} (h : cQry.ok B w x cs) : ∃ a1 cap1 a2 cap2, cs = [.int .i64 x.vars, .slice a1 x.atoms.length cap1, .slice a2 x.free.length cap2] ∧ (cSlice cAtm).ok B w x.atoms [.slice a1 x.atoms.length cap1] ∧ (cSlice cInt).ok B w x.free [.slice a2 x.free.length cap2] ∧ inR x.vars := by
  obtain ⟨_, _, rfl, h0, _, _, rfl, h1, h2⟩ := h
  obtain ⟨rfl, g0⟩ := h0
  have k1 := h1
  obtain ⟨a1, cap1, rfl, _⟩ := k1
  have k2 := h2
  obtain ⟨a2, cap2, rfl, _⟩ := k2
  exact ⟨a1, cap1, a2, cap2, rfl, h1, h2, g0⟩
theorem cQry_open {B : Nat} {w : World} {x : Qry} {cs : List Value} (h : cQry.ok B w x cs) : ∃ a1 cap1 a2 cap2, cs = [.int .i64 x.vars, .slice a1 x.atoms.length cap1, .slice a2 x.free.length cap2] ∧ cQry.ok B w x [.int .i64 x.vars, .slice a1 x.atoms.length cap1, .slice a2 x.free.length cap2] := by
  have h0 := h
  obtain ⟨a1, cap1, a2, cap2, rfl, _⟩ := cQry_fields h
  exact ⟨a1, cap1, a2, cap2, rfl, h0⟩
theorem cQry_inv {B : Nat} {w : World} {x : Qry} {v0 v1 v2 : Value} (h : cQry.ok B w x [v0, v1, v2]) : (cSlice cAtm).ok B w x.atoms [v1] ∧ (cSlice cInt).ok B w x.free [v2] ∧ inR x.vars := by
  obtain ⟨a1, cap1, a2, cap2, e, h1, h2, g0⟩ := cQry_fields h
  simp only [List.cons.injEq, and_true] at e
  obtain ⟨rfl, rfl, rfl⟩ := e
  exact ⟨h1, h2, g0⟩
theorem cQry_mk {B : Nat} {w : World} {x : Qry} {v1 v2 : Value} (h1 : (cSlice cAtm).ok B w x.atoms [v1]) (h2 : (cSlice cInt).ok B w x.free [v2]) (g0 : inR x.vars) : cQry.ok B w x [.int .i64 x.vars, v1, v2] := ⟨[_], _, rfl, ⟨rfl, g0⟩, ⟨[_], _, rfl, h1, h2⟩⟩
theorem cQry_own {lo hi lo1 hi1 lo2 hi2 : Nat} {w : World} {x : Qry} {v1 v2 : Value} (h1 : OwnIn (cSlice cAtm) lo1 hi1 w x.atoms [v1]) (l1 : lo1 ≤ hi1) (h2 : OwnIn (cSlice cInt) lo2 hi2 w x.free [v2]) (l2 : lo2 ≤ hi2) (g0 : inR x.vars) (q1 : lo ≤ lo1) (q2 : hi1 ≤ lo2) (q : hi2 ≤ hi) : OwnIn cQry lo hi w x [.int .i64 x.vars, v1, v2] := (OwnIn.pair (OwnIn.int lo lo _ g0) (OwnIn.pair (h1.wide (lo' := lo) (hi' := hi1) (by omega) (by omega)) (h2.wide (lo' := hi1) (hi' := hi) (by omega) (by omega)) (by omega) (by omega)) (by omega) (by omega))
/-- Its size: its leaves behind slices. -/
def sizeQuery (x : Qry) : Nat := sizeAtomS x.atoms + (x.free.length)
theorem szQuery_c {a1 : Option Addr} {cap1 : Nat} {a2 : Option Addr} {cap2 : Nat} {x : Qry} {left : Int} {w : World} (hl : 0 ≤ left) (hl2 : left ≤ 1048576) (h : At cQry w x [.int .i64 x.vars, .slice a1 x.atoms.length cap1, .slice a2 x.free.length cap2]) :
    Calls Try.prog 16 #[.agg #[.int .i64 x.vars, .slice a1 x.atoms.length cap1, .slice a2 x.free.length cap2], .int .i64 left] w fun e w' => e = .returned (.int .i64 (szR left (sizeQuery x))) ∧ Below w.heap.size w w' := by
  obtain ⟨k1, k2, _⟩ := cQry_inv h
  unfold sizeQuery
  clear h
  obtain ⟨vars, atoms, free⟩ := x
  simp only at *
  have H1 : Hid (∀ q : Int, 0 ≤ q → q ≤ 1048576 → ∀ ww, Below w.heap.size w ww → Calls Try.prog 62 #[.slice a1 atoms.length cap1, .int .i64 q] ww fun e w' => e = .returned (.int .i64 (szR q (sizeAtomS atoms))) ∧ Below ww.heap.size ww w') :=
    fun q h0 h1 ww hb => szAtomS_c h0 h1 (At.below (c := (cSlice cAtm)) k1 hb (Nat.le_refl _))
  have H2 : Hid (∀ q : Int, 0 ≤ q → q ≤ 1048576 → ∀ ww, Below w.heap.size w ww → Calls Try.prog 63 #[.slice a2 free.length cap2, .int .i64 q] ww fun e w' => e = .returned (.int .i64 (szR q (free.length))) ∧ Below ww.heap.size ww w') :=
    fun q h0 h1 ww hb => szIntS_c h0 h1 (At.below (c := (cSlice cInt)) k2 hb (Nat.le_refl _))
  clear k1 k2
  have G1 := Lib.hid (H1.out (left) (by omega) (by omega))
  rw [szR_step (left) (sizeAtomS atoms)]
  have hn1 : szR (left) (sizeAtomS atoms) < 0 → szR (left) (sizeAtomS atoms) = -1 := szR_neg
  have hle1 := szR_le (left) (sizeAtomS atoms) (by omega)
  generalize szR (left) (sizeAtomS atoms) = z1 at *
  by_cases hz1 : z1 < 0
  · obtain rfl : z1 = -1 := hn1 hz1
    clear hn1
    rw [if_pos (by decide)]
    go_enter Try.func16, Try.ntmps16
    go_wp2_with fail
    refine (G1.out _ ?hb).mono ?_
    case hb => go_grown
    rintro e w1 ⟨rfl, hb1⟩
    have hbb1 : Below w.heap.size w w1 := Below.trans (by go_grown) (hb1.mono (by simp; try omega))
    have hsz1 : w.heap.size + 1 ≤ w1.heap.size := by have := hb1.size; simp at this; omega
    have p1_0 : w1.cell? ⟨w.heap.size, 0, none⟩ = some (.int .i64 vars) := (hb1.cell (by simp)).trans (by go_simp)
    have p1_1 : w1.cell? ⟨w.heap.size, 1, none⟩ = some (.slice a1 atoms.length cap1) := (hb1.cell (by simp)).trans (by go_simp)
    have p1_2 : w1.cell? ⟨w.heap.size, 2, none⟩ = some (.slice a2 free.length cap2) := (hb1.cell (by simp)).trans (by go_simp)
    clear hb1
    go_wp2
    go_ret
    exact ⟨rfl, hbb1⟩
  · clear hn1
    rw [if_neg hz1]
    have G2 := Lib.hid (H2.out (z1) (by omega) (by omega))
    have hn2 : szR (z1) (free.length) < 0 → szR (z1) (free.length) = -1 := szR_neg
    have hle2 := szR_le (z1) (free.length) (by omega)
    generalize szR (z1) (free.length) = z2 at *
    by_cases hz2 : z2 < 0
    · obtain rfl : z2 = -1 := hn2 hz2
      clear hn2
      go_enter Try.func16, Try.ntmps16
      go_wp2_with fail
      refine (G1.out _ ?hb).mono ?_
      case hb => go_grown
      rintro e w1 ⟨rfl, hb1⟩
      have hbb1 : Below w.heap.size w w1 := Below.trans (by go_grown) (hb1.mono (by simp; try omega))
      have hsz1 : w.heap.size + 1 ≤ w1.heap.size := by have := hb1.size; simp at this; omega
      have p1_0 : w1.cell? ⟨w.heap.size, 0, none⟩ = some (.int .i64 vars) := (hb1.cell (by simp)).trans (by go_simp)
      have p1_1 : w1.cell? ⟨w.heap.size, 1, none⟩ = some (.slice a1 atoms.length cap1) := (hb1.cell (by simp)).trans (by go_simp)
      have p1_2 : w1.cell? ⟨w.heap.size, 2, none⟩ = some (.slice a2 free.length cap2) := (hb1.cell (by simp)).trans (by go_simp)
      clear hb1
      go_wp2_with fail
      refine (G2.out _ ?hb).mono ?_
      case hb => exact hbb1
      rintro e w2 ⟨rfl, hb2⟩
      have hbb2 : Below w.heap.size w w2 := hbb1.trans (hb2.mono (by omega))
      have hsz2 : w.heap.size + 1 ≤ w2.heap.size := by have := hb2.size; omega
      have p2_0 := (hb2.cell (p := ⟨w.heap.size, 0, none⟩) (by simp; try omega)).trans p1_0
      have p2_1 := (hb2.cell (p := ⟨w.heap.size, 1, none⟩) (by simp; try omega)).trans p1_1
      have p2_2 := (hb2.cell (p := ⟨w.heap.size, 2, none⟩) (by simp; try omega)).trans p1_2
      clear p1_0 p1_1 p1_2
      clear hb2
      go_wp2
      go_ret
      exact ⟨rfl, hbb2⟩
    · clear hn2
      go_enter Try.func16, Try.ntmps16
      go_wp2_with fail
      refine (G1.out _ ?hb).mono ?_
      case hb => go_grown
      rintro e w1 ⟨rfl, hb1⟩
      have hbb1 : Below w.heap.size w w1 := Below.trans (by go_grown) (hb1.mono (by simp; try omega))
      have hsz1 : w.heap.size + 1 ≤ w1.heap.size := by have := hb1.size; simp at this; omega
      have p1_0 : w1.cell? ⟨w.heap.size, 0, none⟩ = some (.int .i64 vars) := (hb1.cell (by simp)).trans (by go_simp)
      have p1_1 : w1.cell? ⟨w.heap.size, 1, none⟩ = some (.slice a1 atoms.length cap1) := (hb1.cell (by simp)).trans (by go_simp)
      have p1_2 : w1.cell? ⟨w.heap.size, 2, none⟩ = some (.slice a2 free.length cap2) := (hb1.cell (by simp)).trans (by go_simp)
      clear hb1
      go_wp2_with fail
      refine (G2.out _ ?hb).mono ?_
      case hb => exact hbb1
      rintro e w2 ⟨rfl, hb2⟩
      have hbb2 : Below w.heap.size w w2 := hbb1.trans (hb2.mono (by omega))
      have hsz2 : w.heap.size + 1 ≤ w2.heap.size := by have := hb2.size; omega
      have p2_0 := (hb2.cell (p := ⟨w.heap.size, 0, none⟩) (by simp; try omega)).trans p1_0
      have p2_1 := (hb2.cell (p := ⟨w.heap.size, 1, none⟩) (by simp; try omega)).trans p1_1
      have p2_2 := (hb2.cell (p := ⟨w.heap.size, 2, none⟩) (by simp; try omega)).trans p1_2
      clear p1_0 p1_1 p1_2
      clear hb2
      go_wp2
      go_ret
      exact ⟨rfl, hbb2⟩
set_option maxHeartbeats 800000 in
theorem toQuery_c {a1 : Option Addr} {cap1 : Nat} {a2 : Option Addr} {cap2 : Nat} {x : Qry} {w : World} (hs : sizeQuery x ≤ 1048576) (h : At cQry w x [.int .i64 x.vars, .slice a1 x.atoms.length cap1, .slice a2 x.free.length cap2]) :
    Calls Try.prog 19 #[.agg #[.int .i64 x.vars, .slice a1 x.atoms.length cap1, .slice a2 x.free.length cap2]] w fun e w' => (∃ a1' cap1' a2' cap2', e = .returned (.agg #[.int .i64 x.vars, .slice a1' x.atoms.length cap1', .slice a2' x.free.length cap2']) ∧ Own cQry w.heap.size w' x [.int .i64 x.vars, .slice a1' x.atoms.length cap1', .slice a2' x.free.length cap2']) ∧ Below w.heap.size w w' := by
  unfold sizeQuery at hs
  obtain ⟨k1, k2, g0⟩ := cQry_inv h
  have G0 := Lib.hid g0
  clear g0
  clear h
  obtain ⟨vars, atoms, free⟩ := x
  simp only at *
  have H1 : Hid (∀ ww, Below w.heap.size w ww → Calls Try.prog 67 #[.slice a1 atoms.length cap1] ww fun e w' => (∃ a' cap', e = .returned (.slice a' atoms.length cap') ∧ Own (cSlice cAtm) ww.heap.size w' atoms [.slice a' atoms.length cap']) ∧ Below ww.heap.size ww w') :=
    fun ww hb => toAtomS_c (by omega) (At.below (c := (cSlice cAtm)) k1 hb (Nat.le_refl _))
  have H2 : Hid (∀ ww, Below w.heap.size w ww → Calls Try.prog 29 #[.slice a2 free.length cap2] ww fun e w' => (∃ a' cap', e = .returned (.slice a' free.length cap') ∧ Own (cSlice cInt) ww.heap.size w' free [.slice a' free.length cap']) ∧ Below ww.heap.size ww w') :=
    fun ww hb => toIntS_c (by omega) (At.below (c := (cSlice cInt)) k2 hb (Nat.le_refl _))
  clear hs k1 k2
  go_enter Try.func19, Try.ntmps19
  go_wp2_with fail
  refine (H1.out _ ?hb).mono ?_
  case hb => go_grown
  rintro e w1 ⟨⟨a1', cap1', rfl, ho1⟩, hb1⟩
  have hbb1 : Below w.heap.size w w1 := Below.trans (by go_grown) (hb1.mono (by simp; try omega))
  have hsz1 : w.heap.size + 3 ≤ w1.heap.size := by have := hb1.size; simp at this; omega
  have p1_0 : w1.cell? ⟨w.heap.size, 0, none⟩ = some (.int .i64 vars) := (hb1.cell (by simp; try omega)).trans (by go_simp)
  have o1_0 : w1.cell? ⟨w.heap.size + 1 + 1, 0, none⟩ = some (.int .i64 vars) := (hb1.cell (by simp; try omega)).trans (by go_simp)
  have f1_0 : w1.frozen? ⟨w.heap.size + 1 + 1, 0, none⟩ = false := (hb1.frozen (by simp; try omega)).trans (by go_simp)
  have e1_0 : w1.cell? ⟨w.heap.size + 1, 0, none⟩ = some (.int .i64 0) := (hb1.cell (by simp; try omega)).trans (by go_simp)
  have g1_0 : w1.frozen? ⟨w.heap.size + 1, 0, none⟩ = false := (hb1.frozen (by simp; try omega)).trans (by go_simp)
  have p1_1 : w1.cell? ⟨w.heap.size, 1, none⟩ = some (.slice a1 atoms.length cap1) := (hb1.cell (by simp; try omega)).trans (by go_simp)
  have o1_1 : w1.cell? ⟨w.heap.size + 1 + 1, 1, none⟩ = some (.slice none 0 0) := (hb1.cell (by simp; try omega)).trans (by go_simp)
  have f1_1 : w1.frozen? ⟨w.heap.size + 1 + 1, 1, none⟩ = false := (hb1.frozen (by simp; try omega)).trans (by go_simp)
  have e1_1 : w1.cell? ⟨w.heap.size + 1, 1, none⟩ = some (.slice none 0 0) := (hb1.cell (by simp; try omega)).trans (by go_simp)
  have g1_1 : w1.frozen? ⟨w.heap.size + 1, 1, none⟩ = false := (hb1.frozen (by simp; try omega)).trans (by go_simp)
  have p1_2 : w1.cell? ⟨w.heap.size, 2, none⟩ = some (.slice a2 free.length cap2) := (hb1.cell (by simp; try omega)).trans (by go_simp)
  have o1_2 : w1.cell? ⟨w.heap.size + 1 + 1, 2, none⟩ = some (.slice none 0 0) := (hb1.cell (by simp; try omega)).trans (by go_simp)
  have f1_2 : w1.frozen? ⟨w.heap.size + 1 + 1, 2, none⟩ = false := (hb1.frozen (by simp; try omega)).trans (by go_simp)
  have e1_2 : w1.cell? ⟨w.heap.size + 1, 2, none⟩ = some (.slice none 0 0) := (hb1.cell (by simp; try omega)).trans (by go_simp)
  have g1_2 : w1.frozen? ⟨w.heap.size + 1, 2, none⟩ = false := (hb1.frozen (by simp; try omega)).trans (by go_simp)
  have hR1 : w1.heap[w.heap.size + 1]? = some (.cells #[.int .i64 0, .slice none 0 0, .slice none 0 0] 34 (0, 0)) := (hb1.block _ (by simp; try omega)).trans (by rw [Go.heap_alloc_old _ _ (by simp; try omega)]; exact heap_alloc2_new _ _ _)
  have u1 : OwnIn (cSlice cAtm) (w.heap.size + 3) w1.heap.size w1 atoms _ := OwnIn.wide ho1 (by simp; try omega) (Nat.le_refl _)
  clear hb1 ho1
  go_wp2_with fail
  refine (H2.out _ ?hb).mono ?_
  case hb => exact hbb1.setCell (by simp; try omega) _
  rintro e w2 ⟨⟨a2', cap2', rfl, ho2⟩, hb2⟩
  have hW : (w1.setCell ⟨w.heap.size + 1 + 1, 1, none⟩ (.slice a1' atoms.length cap1')).heap.size = w1.heap.size := by simp [World.setCell]
  rw [hW] at ho2 hb2
  have hbb2 : Below w.heap.size w w2 := (hbb1.setCell (p := ⟨w.heap.size + 1 + 1, 1, none⟩) (by simp; try omega) _).trans (hb2.mono (by omega))
  have hsz2 : w.heap.size + 3 ≤ w2.heap.size := by have := hb2.size; rw [hW] at this; omega
  have p2_0 := (hb2.cell (p := ⟨w.heap.size, 0, none⟩) (by simp; try omega)).trans ((World.cell?_setCell_other _ _ _ _ (by first | (simp; done) | (simp; omega))).trans p1_0)
  have o2_0 := (hb2.cell (p := ⟨w.heap.size + 1 + 1, 0, none⟩) (by simp; try omega)).trans ((World.cell?_setCell_other _ _ _ _ (by first | (simp; done) | (simp; omega))).trans o1_0)
  have f2_0 := (hb2.frozen (p := ⟨w.heap.size + 1 + 1, 0, none⟩) (by simp; try omega)).trans ((World.frozen?_setCell _ _ _ _).trans f1_0)
  have e2_0 := (hb2.cell (p := ⟨w.heap.size + 1, 0, none⟩) (by simp; try omega)).trans ((World.cell?_setCell_other _ _ _ _ (by first | (simp; done) | (simp; omega))).trans e1_0)
  have g2_0 := (hb2.frozen (p := ⟨w.heap.size + 1, 0, none⟩) (by simp; try omega)).trans ((World.frozen?_setCell _ _ _ _).trans g1_0)
  have p2_1 := (hb2.cell (p := ⟨w.heap.size, 1, none⟩) (by simp; try omega)).trans ((World.cell?_setCell_other _ _ _ _ (by first | (simp; done) | (simp; omega))).trans p1_1)
  have o2_1 := (hb2.cell (p := ⟨w.heap.size + 1 + 1, 1, none⟩) (by simp; try omega)).trans (World.cell?_setCell_same _ _ _ o1_1)
  have f2_1 := (hb2.frozen (p := ⟨w.heap.size + 1 + 1, 1, none⟩) (by simp; try omega)).trans ((World.frozen?_setCell _ _ _ _).trans f1_1)
  have e2_1 := (hb2.cell (p := ⟨w.heap.size + 1, 1, none⟩) (by simp; try omega)).trans ((World.cell?_setCell_other _ _ _ _ (by first | (simp; done) | (simp; omega))).trans e1_1)
  have g2_1 := (hb2.frozen (p := ⟨w.heap.size + 1, 1, none⟩) (by simp; try omega)).trans ((World.frozen?_setCell _ _ _ _).trans g1_1)
  have p2_2 := (hb2.cell (p := ⟨w.heap.size, 2, none⟩) (by simp; try omega)).trans ((World.cell?_setCell_other _ _ _ _ (by first | (simp; done) | (simp; omega))).trans p1_2)
  have o2_2 := (hb2.cell (p := ⟨w.heap.size + 1 + 1, 2, none⟩) (by simp; try omega)).trans ((World.cell?_setCell_other _ _ _ _ (by first | (simp; done) | (simp; omega))).trans o1_2)
  have f2_2 := (hb2.frozen (p := ⟨w.heap.size + 1 + 1, 2, none⟩) (by simp; try omega)).trans ((World.frozen?_setCell _ _ _ _).trans f1_2)
  have e2_2 := (hb2.cell (p := ⟨w.heap.size + 1, 2, none⟩) (by simp; try omega)).trans ((World.cell?_setCell_other _ _ _ _ (by first | (simp; done) | (simp; omega))).trans e1_2)
  have g2_2 := (hb2.frozen (p := ⟨w.heap.size + 1, 2, none⟩) (by simp; try omega)).trans ((World.frozen?_setCell _ _ _ _).trans g1_2)
  have hR2 := (hb2.block (w.heap.size + 1) (by omega)).trans ((heap_setCell_other _ _ _ _ (by simp)).trans hR1)
  have u1 := (OwnIn.setCell u1 (p := ⟨w.heap.size + 1 + 1, 1, none⟩) (by simp; try omega) (.slice a1' atoms.length cap1')).below hb2 (by omega)
  have u2 : OwnIn (cSlice cInt) w1.heap.size w2.heap.size w2 free _ := ho2
  have hm1 := hb2.size
  rw [hW] at hm1
  clear hW p1_0 o1_0 f1_0 e1_0 g1_0 p1_1 o1_1 f1_1 e1_1 g1_1 p1_2 o1_2 f1_2 e1_2 g1_2 hR1
  clear hb2 ho2
  have U1 := Lib.hid u1
  have U2 := Lib.hid u2
  clear u1 u2
  go_wp2
  (try simp only [Exit.inBlock, Exit.then])
  refine bodyPost_ret (results_cell_row rfl _ _ (w.heap.size + 1) _ _ _ _ rfl (heap_setCell_same _ _ 2 _ _ _ (heap_setCell_same _ _ 1 _ _ _ (heap_setCell_same _ _ 0 _ _ _ ((heap_setCell_other _ _ _ _ (by simp)).trans (hR2))))) Try.underlying34 rfl (by kernel_rfl)) rfl ?_
  exact ⟨⟨_, _, _, _, rfl, OwnIn.own (cQry_own (x := ⟨vars, atoms, free⟩) (lo := w.heap.size) (hi := w2.heap.size) (((((U1.out).setCell (by simp; try omega) _).setCell (by simp; try omega) _).setCell (by simp; try omega) _).setCell (by simp; try omega) _) (by omega) (((((U2.out).setCell (by simp; try omega) _).setCell (by simp; try omega) _).setCell (by simp; try omega) _).setCell (by simp; try omega) _) (by omega) G0.out (by omega) (by omega) (by omega)) (by simp [World.setCell])⟩, ((((hbb2).setCell (by simp; try omega) _).setCell (by simp; try omega) _).setCell (by simp; try omega) _).setCell (by simp; try omega) _⟩
theorem eqQuery_c {a1 : Option Addr} {cap1 : Nat} {a2 : Option Addr} {cap2 : Nat} {a1' : Option Addr} {cap1' : Nat} {a2' : Option Addr} {cap2' : Nat} {x y : Qry} {w : World} (h : At cQry w x [.int .i64 x.vars, .slice a1 x.atoms.length cap1, .slice a2 x.free.length cap2]) (h' : At cQry w y [.int .i64 y.vars, .slice a1' y.atoms.length cap1', .slice a2' y.free.length cap2']) :
    Calls Try.prog 22 #[.agg #[.int .i64 x.vars, .slice a1 x.atoms.length cap1, .slice a2 x.free.length cap2], .agg #[.int .i64 y.vars, .slice a1' y.atoms.length cap1', .slice a2' y.free.length cap2']] w fun e w' => e = .returned (.bool (decide (x = y))) ∧ Below w.heap.size w w' := by
  obtain ⟨k1, k2, _⟩ := cQry_inv h
  obtain ⟨m1, m2, _⟩ := cQry_inv h'
  clear h h'
  obtain ⟨vars, atoms, free⟩ := x
  obtain ⟨vars', atoms', free'⟩ := y
  have he : decide (Qry.mk vars atoms free = Qry.mk vars' atoms' free') = (decide (vars = vars') && (decide (atoms = atoms') && decide (free = free'))) := by
    simp only [← Bool.decide_and]; congr 1; rw [Qry.mk.injEq]
  rw [he]
  clear he
  simp only at *
  have H1 : Hid (∀ ww, Below w.heap.size w ww → Calls Try.prog 74 #[.slice a1 atoms.length cap1, .slice a1' atoms'.length cap1'] ww fun e w' => e = .returned (.bool (decide (atoms = atoms'))) ∧ Below ww.heap.size ww w') :=
    fun ww hb => eqAtomS_c (At.below (c := (cSlice cAtm)) k1 hb (Nat.le_refl _)) (At.below (c := (cSlice cAtm)) m1 hb (Nat.le_refl _))
  have H2 : Hid (∀ ww, Below w.heap.size w ww → Calls Try.prog 31 #[.slice a2 free.length cap2, .slice a2' free'.length cap2'] ww fun e w' => e = .returned (.bool (decide (free = free'))) ∧ Below ww.heap.size ww w') :=
    fun ww hb => eqIntS_c (At.below (c := (cSlice cInt)) k2 hb (Nat.le_refl _)) (At.below (c := (cSlice cInt)) m2 hb (Nat.le_refl _))
  clear k1 m1 k2 m2
  by_cases hr0 : vars = vars'
  · subst hr0
    rw [decide_eq_true rfl, Bool.true_and]
    generalize decide (atoms = atoms') = z1 at *
    cases z1 with
    | true =>
      rw [Bool.true_and]
      generalize decide (free = free') = z2 at *
      cases z2 with
      | true =>
        go_enter Try.func22, Try.ntmps22
        go_wp2_with fail
        refine (H1.out _ ?hb).mono ?_
        case hb => go_grown
        rintro e w1 ⟨rfl, hb1⟩
        have hbb1 : Below w.heap.size w w1 := Below.trans (by go_grown) (hb1.mono (by simp; try omega))
        have hsz1 : w.heap.size + 2 ≤ w1.heap.size := by have := hb1.size; simp at this; omega
        have p1_0 : w1.cell? ⟨w.heap.size, 0, none⟩ = some (.int .i64 vars) := (hb1.cell (by simp; try omega)).trans (by go_simp)
        have r1_0 : w1.cell? ⟨w.heap.size + 1, 0, none⟩ = some (.int .i64 vars) := (hb1.cell (by simp; try omega)).trans (by go_simp)
        have p1_1 : w1.cell? ⟨w.heap.size, 1, none⟩ = some (.slice a1 atoms.length cap1) := (hb1.cell (by simp; try omega)).trans (by go_simp)
        have r1_1 : w1.cell? ⟨w.heap.size + 1, 1, none⟩ = some (.slice a1' atoms'.length cap1') := (hb1.cell (by simp; try omega)).trans (by go_simp)
        have p1_2 : w1.cell? ⟨w.heap.size, 2, none⟩ = some (.slice a2 free.length cap2) := (hb1.cell (by simp; try omega)).trans (by go_simp)
        have r1_2 : w1.cell? ⟨w.heap.size + 1, 2, none⟩ = some (.slice a2' free'.length cap2') := (hb1.cell (by simp; try omega)).trans (by go_simp)
        clear hb1
        go_wp2_with fail
        refine (H2.out _ ?hb).mono ?_
        case hb => exact hbb1
        rintro e w2 ⟨rfl, hb2⟩
        have hbb2 : Below w.heap.size w w2 := hbb1.trans (hb2.mono (by omega))
        have hsz2 : w.heap.size + 2 ≤ w2.heap.size := by have := hb2.size; omega
        have p2_0 := (hb2.cell (p := ⟨w.heap.size, 0, none⟩) (by simp; try omega)).trans p1_0
        have r2_0 := (hb2.cell (p := ⟨w.heap.size + 1, 0, none⟩) (by simp; try omega)).trans r1_0
        have p2_1 := (hb2.cell (p := ⟨w.heap.size, 1, none⟩) (by simp; try omega)).trans p1_1
        have r2_1 := (hb2.cell (p := ⟨w.heap.size + 1, 1, none⟩) (by simp; try omega)).trans r1_1
        have p2_2 := (hb2.cell (p := ⟨w.heap.size, 2, none⟩) (by simp; try omega)).trans p1_2
        have r2_2 := (hb2.cell (p := ⟨w.heap.size + 1, 2, none⟩) (by simp; try omega)).trans r1_2
        clear p1_0 r1_0 p1_1 r1_1 p1_2 r1_2
        clear hb2
        go_wp2
        go_ret
        exact ⟨by simp, hbb2⟩
      | false =>
        go_enter Try.func22, Try.ntmps22
        go_wp2_with fail
        refine (H1.out _ ?hb).mono ?_
        case hb => go_grown
        rintro e w1 ⟨rfl, hb1⟩
        have hbb1 : Below w.heap.size w w1 := Below.trans (by go_grown) (hb1.mono (by simp; try omega))
        have hsz1 : w.heap.size + 2 ≤ w1.heap.size := by have := hb1.size; simp at this; omega
        have p1_0 : w1.cell? ⟨w.heap.size, 0, none⟩ = some (.int .i64 vars) := (hb1.cell (by simp; try omega)).trans (by go_simp)
        have r1_0 : w1.cell? ⟨w.heap.size + 1, 0, none⟩ = some (.int .i64 vars) := (hb1.cell (by simp; try omega)).trans (by go_simp)
        have p1_1 : w1.cell? ⟨w.heap.size, 1, none⟩ = some (.slice a1 atoms.length cap1) := (hb1.cell (by simp; try omega)).trans (by go_simp)
        have r1_1 : w1.cell? ⟨w.heap.size + 1, 1, none⟩ = some (.slice a1' atoms'.length cap1') := (hb1.cell (by simp; try omega)).trans (by go_simp)
        have p1_2 : w1.cell? ⟨w.heap.size, 2, none⟩ = some (.slice a2 free.length cap2) := (hb1.cell (by simp; try omega)).trans (by go_simp)
        have r1_2 : w1.cell? ⟨w.heap.size + 1, 2, none⟩ = some (.slice a2' free'.length cap2') := (hb1.cell (by simp; try omega)).trans (by go_simp)
        clear hb1
        go_wp2_with fail
        refine (H2.out _ ?hb).mono ?_
        case hb => exact hbb1
        rintro e w2 ⟨rfl, hb2⟩
        have hbb2 : Below w.heap.size w w2 := hbb1.trans (hb2.mono (by omega))
        have hsz2 : w.heap.size + 2 ≤ w2.heap.size := by have := hb2.size; omega
        have p2_0 := (hb2.cell (p := ⟨w.heap.size, 0, none⟩) (by simp; try omega)).trans p1_0
        have r2_0 := (hb2.cell (p := ⟨w.heap.size + 1, 0, none⟩) (by simp; try omega)).trans r1_0
        have p2_1 := (hb2.cell (p := ⟨w.heap.size, 1, none⟩) (by simp; try omega)).trans p1_1
        have r2_1 := (hb2.cell (p := ⟨w.heap.size + 1, 1, none⟩) (by simp; try omega)).trans r1_1
        have p2_2 := (hb2.cell (p := ⟨w.heap.size, 2, none⟩) (by simp; try omega)).trans p1_2
        have r2_2 := (hb2.cell (p := ⟨w.heap.size + 1, 2, none⟩) (by simp; try omega)).trans r1_2
        clear p1_0 r1_0 p1_1 r1_1 p1_2 r1_2
        clear hb2
        go_wp2
        go_ret
        exact ⟨by simp, hbb2⟩
    | false =>
      rw [Bool.false_and]
      go_enter Try.func22, Try.ntmps22
      go_wp2_with fail
      refine (H1.out _ ?hb).mono ?_
      case hb => go_grown
      rintro e w1 ⟨rfl, hb1⟩
      have hbb1 : Below w.heap.size w w1 := Below.trans (by go_grown) (hb1.mono (by simp; try omega))
      have hsz1 : w.heap.size + 2 ≤ w1.heap.size := by have := hb1.size; simp at this; omega
      have p1_0 : w1.cell? ⟨w.heap.size, 0, none⟩ = some (.int .i64 vars) := (hb1.cell (by simp; try omega)).trans (by go_simp)
      have r1_0 : w1.cell? ⟨w.heap.size + 1, 0, none⟩ = some (.int .i64 vars) := (hb1.cell (by simp; try omega)).trans (by go_simp)
      have p1_1 : w1.cell? ⟨w.heap.size, 1, none⟩ = some (.slice a1 atoms.length cap1) := (hb1.cell (by simp; try omega)).trans (by go_simp)
      have r1_1 : w1.cell? ⟨w.heap.size + 1, 1, none⟩ = some (.slice a1' atoms'.length cap1') := (hb1.cell (by simp; try omega)).trans (by go_simp)
      have p1_2 : w1.cell? ⟨w.heap.size, 2, none⟩ = some (.slice a2 free.length cap2) := (hb1.cell (by simp; try omega)).trans (by go_simp)
      have r1_2 : w1.cell? ⟨w.heap.size + 1, 2, none⟩ = some (.slice a2' free'.length cap2') := (hb1.cell (by simp; try omega)).trans (by go_simp)
      clear hb1
      go_wp2
      go_ret
      exact ⟨by simp, hbb1⟩
  · have hn0 : (vars != vars') = true := by simp [hr0]
    rw [decide_eq_false hr0, Bool.false_and]
    go_enter Try.func22, Try.ntmps22
    go_wp2
    go_ret
    exact ⟨by simp, by go_grown⟩
end Go.Proofs.Ytmofmepbekffiaa

