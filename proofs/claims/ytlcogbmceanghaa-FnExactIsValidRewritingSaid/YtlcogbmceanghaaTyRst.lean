/- Structs that hold structs: readings, the laws' helpers on them (size, copy, equality). -/
import Derived.Test.YtlcogbmceanghaaTyTre
namespace Go.Proofs.Ytlcogbmceanghaa
open Go.RowKit
set_option linter.unusedVariables false
set_option maxRecDepth 100000

/-- A step of a rewriting: an atom, two lists of variables. -/
structure Rst where
  atom : Atm
  ex : List Int
  un : List Int
deriving DecidableEq
def cRst : Cod Rst := cMap (fun x => (x.atom, (x.ex, x.un))) (cPair cAtm (cPair (cSlice cInt) (cSlice cInt)))
theorem cRst_fields {B : Nat} {w : World} {x : Rst} {cs : List Value} (h : cRst.ok B w x cs) : ∃ a1 cap1 a2 cap2 a3 cap3, cs = [.int .i64 x.atom.rel, .slice a1 x.atom.terms.length cap1, .slice a2 x.ex.length cap2, .slice a3 x.un.length cap3] ∧ cAtm.ok B w x.atom [.int .i64 x.atom.rel, .slice a1 x.atom.terms.length cap1] ∧ (cSlice cInt).ok B w x.ex [.slice a2 x.ex.length cap2] ∧ (cSlice cInt).ok B w x.un [.slice a3 x.un.length cap3] := by
  obtain ⟨_, _, rfl, h0, _, _, rfl, h1, h2⟩ := h
  obtain ⟨a1, cap1, rfl, k0⟩ := cAtm_open h0
  have k1 := h1
  obtain ⟨a2, cap2, rfl, _⟩ := k1
  have k2 := h2
  obtain ⟨a3, cap3, rfl, _⟩ := k2
  exact ⟨a1, cap1, a2, cap2, a3, cap3, rfl, k0, h1, h2⟩
theorem cRst_open {B : Nat} {w : World} {x : Rst} {cs : List Value} (h : cRst.ok B w x cs) : ∃ a1 cap1 a2 cap2 a3 cap3, cs = [.int .i64 x.atom.rel, .slice a1 x.atom.terms.length cap1, .slice a2 x.ex.length cap2, .slice a3 x.un.length cap3] ∧ cRst.ok B w x [.int .i64 x.atom.rel, .slice a1 x.atom.terms.length cap1, .slice a2 x.ex.length cap2, .slice a3 x.un.length cap3] := by
  have h0 := h
  obtain ⟨a1, cap1, a2, cap2, a3, cap3, rfl, _⟩ := cRst_fields h
  exact ⟨a1, cap1, a2, cap2, a3, cap3, rfl, h0⟩
theorem cRst_inv {B : Nat} {w : World} {x : Rst} {v0 v1 v2 v3 : Value} (h : cRst.ok B w x [v0, v1, v2, v3]) : cAtm.ok B w x.atom [v0, v1] ∧ (cSlice cInt).ok B w x.ex [v2] ∧ (cSlice cInt).ok B w x.un [v3] := by
  obtain ⟨a1, cap1, a2, cap2, a3, cap3, e, h0, h1, h2⟩ := cRst_fields h
  simp only [List.cons.injEq, and_true] at e
  obtain ⟨rfl, rfl, rfl, rfl⟩ := e
  exact ⟨h0, h1, h2⟩
theorem cRst_own {lo hi lo0 hi0 lo1 hi1 lo2 hi2 : Nat} {w : World} {x : Rst} {v0 v1 v2 v3 : Value} (h0 : OwnIn cAtm lo0 hi0 w x.atom [v0, v1]) (l0 : lo0 ≤ hi0) (h1 : OwnIn (cSlice cInt) lo1 hi1 w x.ex [v2]) (l1 : lo1 ≤ hi1) (h2 : OwnIn (cSlice cInt) lo2 hi2 w x.un [v3]) (l2 : lo2 ≤ hi2) (q0 : lo ≤ lo0) (q1 : hi0 ≤ lo1) (q2 : hi1 ≤ lo2) (q : hi2 ≤ hi) : OwnIn cRst lo hi w x [v0, v1, v2, v3] := (OwnIn.pair (h0.wide (lo' := lo) (hi' := hi0) (by omega) (by omega)) (OwnIn.pair (h1.wide (lo' := hi0) (hi' := hi1) (by omega) (by omega)) (h2.wide (lo' := hi1) (hi' := hi) (by omega) (by omega)) (by omega) (by omega)) (by omega) (by omega))
/-- Its size: its leaves behind slices. -/
def sizeRewritingStep (x : Rst) : Nat := sizeAtom x.atom + (x.ex.length + (x.un.length))
theorem szRewritingStep_c {a1 : Option Addr} {cap1 : Nat} {a2 : Option Addr} {cap2 : Nat} {a3 : Option Addr} {cap3 : Nat} {x : Rst} {left : Int} {w : World} (hl : 0 ≤ left) (hl2 : left ≤ 1048576) (h : At cRst w x [.int .i64 x.atom.rel, .slice a1 x.atom.terms.length cap1, .slice a2 x.ex.length cap2, .slice a3 x.un.length cap3]) :
    Calls Try.prog 13 #[.agg #[.int .i64 x.atom.rel, .slice a1 x.atom.terms.length cap1, .slice a2 x.ex.length cap2, .slice a3 x.un.length cap3], .int .i64 left] w fun e w' => e = .returned (.int .i64 (szR left (sizeRewritingStep x))) ∧ Below w.heap.size w w' := by
  obtain ⟨k0, k1, k2⟩ := cRst_inv h
  unfold sizeRewritingStep
  clear h
  obtain ⟨⟨rel, terms⟩, ex, un⟩ := x
  simp only at *
  have H0 : Hid (∀ q : Int, 0 ≤ q → q ≤ 1048576 → ∀ ww, Below w.heap.size w ww → Calls Try.prog 24 #[.agg #[.int .i64 rel, .slice a1 terms.length cap1], .int .i64 q] ww fun e w' => e = .returned (.int .i64 (szR q (sizeAtom (Atm.mk rel terms)))) ∧ Below ww.heap.size ww w') :=
    fun q h0 h1 ww hb => szAtom_c h0 h1 (At.below (c := cAtm) k0 hb (Nat.le_refl _))
  have H1 : Hid (∀ q : Int, 0 ≤ q → q ≤ 1048576 → ∀ ww, Below w.heap.size w ww → Calls Try.prog 25 #[.slice a2 ex.length cap2, .int .i64 q] ww fun e w' => e = .returned (.int .i64 (szR q (ex.length))) ∧ Below ww.heap.size ww w') :=
    fun q h0 h1 ww hb => szIntS_c h0 h1 (At.below (c := (cSlice cInt)) k1 hb (Nat.le_refl _))
  have H2 : Hid (∀ q : Int, 0 ≤ q → q ≤ 1048576 → ∀ ww, Below w.heap.size w ww → Calls Try.prog 25 #[.slice a3 un.length cap3, .int .i64 q] ww fun e w' => e = .returned (.int .i64 (szR q (un.length))) ∧ Below ww.heap.size ww w') :=
    fun q h0 h1 ww hb => szIntS_c h0 h1 (At.below (c := (cSlice cInt)) k2 hb (Nat.le_refl _))
  clear k0 k1 k2
  generalize sizeAtom (Atm.mk rel terms) = Z0 at *
  have G0 := Lib.hid (H0.out (left) (by omega) (by omega))
  rw [szR_step (left) (Z0)]
  have hn0 : szR (left) (Z0) < 0 → szR (left) (Z0) = -1 := szR_neg
  have hle0 := szR_le (left) (Z0) (by omega)
  generalize szR (left) (Z0) = z0 at *
  by_cases hz0 : z0 < 0
  · obtain rfl : z0 = -1 := hn0 hz0
    clear hn0
    rw [if_pos (by decide)]
    go_enter Try.func13, Try.ntmps13
    go_wp2_with fail
    refine (G0.out _ ?hb).mono ?_
    case hb => go_grown
    rintro e w1 ⟨rfl, hb1⟩
    have hbb1 : Below w.heap.size w w1 := Below.trans (by go_grown) (hb1.mono (by simp; try omega))
    have hsz1 : w.heap.size + 1 ≤ w1.heap.size := by have := hb1.size; simp at this; omega
    have p1_0 : w1.cell? ⟨w.heap.size, 0, none⟩ = some (.int .i64 rel) := (hb1.cell (by simp)).trans (by go_simp)
    have p1_1 : w1.cell? ⟨w.heap.size, 1, none⟩ = some (.slice a1 terms.length cap1) := (hb1.cell (by simp)).trans (by go_simp)
    have p1_2 : w1.cell? ⟨w.heap.size, 2, none⟩ = some (.slice a2 ex.length cap2) := (hb1.cell (by simp)).trans (by go_simp)
    have p1_3 : w1.cell? ⟨w.heap.size, 3, none⟩ = some (.slice a3 un.length cap3) := (hb1.cell (by simp)).trans (by go_simp)
    clear hb1
    go_wp2
    go_ret
    exact ⟨rfl, hbb1⟩
  · clear hn0
    rw [if_neg hz0]
    have G1 := Lib.hid (H1.out (z0) (by omega) (by omega))
    rw [szR_step (z0) (ex.length)]
    have hn1 : szR (z0) (ex.length) < 0 → szR (z0) (ex.length) = -1 := szR_neg
    have hle1 := szR_le (z0) (ex.length) (by omega)
    generalize szR (z0) (ex.length) = z1 at *
    by_cases hz1 : z1 < 0
    · obtain rfl : z1 = -1 := hn1 hz1
      clear hn1
      rw [if_pos (by decide)]
      go_enter Try.func13, Try.ntmps13
      go_wp2_with fail
      refine (G0.out _ ?hb).mono ?_
      case hb => go_grown
      rintro e w1 ⟨rfl, hb1⟩
      have hbb1 : Below w.heap.size w w1 := Below.trans (by go_grown) (hb1.mono (by simp; try omega))
      have hsz1 : w.heap.size + 1 ≤ w1.heap.size := by have := hb1.size; simp at this; omega
      have p1_0 : w1.cell? ⟨w.heap.size, 0, none⟩ = some (.int .i64 rel) := (hb1.cell (by simp)).trans (by go_simp)
      have p1_1 : w1.cell? ⟨w.heap.size, 1, none⟩ = some (.slice a1 terms.length cap1) := (hb1.cell (by simp)).trans (by go_simp)
      have p1_2 : w1.cell? ⟨w.heap.size, 2, none⟩ = some (.slice a2 ex.length cap2) := (hb1.cell (by simp)).trans (by go_simp)
      have p1_3 : w1.cell? ⟨w.heap.size, 3, none⟩ = some (.slice a3 un.length cap3) := (hb1.cell (by simp)).trans (by go_simp)
      clear hb1
      go_wp2_with fail
      refine (G1.out _ ?hb).mono ?_
      case hb => exact hbb1
      rintro e w2 ⟨rfl, hb2⟩
      have hbb2 : Below w.heap.size w w2 := hbb1.trans (hb2.mono (by omega))
      have hsz2 : w.heap.size + 1 ≤ w2.heap.size := by have := hb2.size; omega
      have p2_0 := (hb2.cell (p := ⟨w.heap.size, 0, none⟩) (by simp; try omega)).trans p1_0
      have p2_1 := (hb2.cell (p := ⟨w.heap.size, 1, none⟩) (by simp; try omega)).trans p1_1
      have p2_2 := (hb2.cell (p := ⟨w.heap.size, 2, none⟩) (by simp; try omega)).trans p1_2
      have p2_3 := (hb2.cell (p := ⟨w.heap.size, 3, none⟩) (by simp; try omega)).trans p1_3
      clear p1_0 p1_1 p1_2 p1_3
      clear hb2
      go_wp2
      go_ret
      exact ⟨rfl, hbb2⟩
    · clear hn1
      rw [if_neg hz1]
      have G2 := Lib.hid (H2.out (z1) (by omega) (by omega))
      have hn2 : szR (z1) (un.length) < 0 → szR (z1) (un.length) = -1 := szR_neg
      have hle2 := szR_le (z1) (un.length) (by omega)
      generalize szR (z1) (un.length) = z2 at *
      by_cases hz2 : z2 < 0
      · obtain rfl : z2 = -1 := hn2 hz2
        clear hn2
        go_enter Try.func13, Try.ntmps13
        go_wp2_with fail
        refine (G0.out _ ?hb).mono ?_
        case hb => go_grown
        rintro e w1 ⟨rfl, hb1⟩
        have hbb1 : Below w.heap.size w w1 := Below.trans (by go_grown) (hb1.mono (by simp; try omega))
        have hsz1 : w.heap.size + 1 ≤ w1.heap.size := by have := hb1.size; simp at this; omega
        have p1_0 : w1.cell? ⟨w.heap.size, 0, none⟩ = some (.int .i64 rel) := (hb1.cell (by simp)).trans (by go_simp)
        have p1_1 : w1.cell? ⟨w.heap.size, 1, none⟩ = some (.slice a1 terms.length cap1) := (hb1.cell (by simp)).trans (by go_simp)
        have p1_2 : w1.cell? ⟨w.heap.size, 2, none⟩ = some (.slice a2 ex.length cap2) := (hb1.cell (by simp)).trans (by go_simp)
        have p1_3 : w1.cell? ⟨w.heap.size, 3, none⟩ = some (.slice a3 un.length cap3) := (hb1.cell (by simp)).trans (by go_simp)
        clear hb1
        go_wp2_with fail
        refine (G1.out _ ?hb).mono ?_
        case hb => exact hbb1
        rintro e w2 ⟨rfl, hb2⟩
        have hbb2 : Below w.heap.size w w2 := hbb1.trans (hb2.mono (by omega))
        have hsz2 : w.heap.size + 1 ≤ w2.heap.size := by have := hb2.size; omega
        have p2_0 := (hb2.cell (p := ⟨w.heap.size, 0, none⟩) (by simp; try omega)).trans p1_0
        have p2_1 := (hb2.cell (p := ⟨w.heap.size, 1, none⟩) (by simp; try omega)).trans p1_1
        have p2_2 := (hb2.cell (p := ⟨w.heap.size, 2, none⟩) (by simp; try omega)).trans p1_2
        have p2_3 := (hb2.cell (p := ⟨w.heap.size, 3, none⟩) (by simp; try omega)).trans p1_3
        clear p1_0 p1_1 p1_2 p1_3
        clear hb2
        go_wp2_with fail
        refine (G2.out _ ?hb).mono ?_
        case hb => exact hbb2
        rintro e w3 ⟨rfl, hb3⟩
        have hbb3 : Below w.heap.size w w3 := hbb2.trans (hb3.mono (by omega))
        have hsz3 : w.heap.size + 1 ≤ w3.heap.size := by have := hb3.size; omega
        have p3_0 := (hb3.cell (p := ⟨w.heap.size, 0, none⟩) (by simp; try omega)).trans p2_0
        have p3_1 := (hb3.cell (p := ⟨w.heap.size, 1, none⟩) (by simp; try omega)).trans p2_1
        have p3_2 := (hb3.cell (p := ⟨w.heap.size, 2, none⟩) (by simp; try omega)).trans p2_2
        have p3_3 := (hb3.cell (p := ⟨w.heap.size, 3, none⟩) (by simp; try omega)).trans p2_3
        clear p2_0 p2_1 p2_2 p2_3
        clear hb3
        go_wp2
        go_ret
        exact ⟨rfl, hbb3⟩
      · clear hn2
        go_enter Try.func13, Try.ntmps13
        go_wp2_with fail
        refine (G0.out _ ?hb).mono ?_
        case hb => go_grown
        rintro e w1 ⟨rfl, hb1⟩
        have hbb1 : Below w.heap.size w w1 := Below.trans (by go_grown) (hb1.mono (by simp; try omega))
        have hsz1 : w.heap.size + 1 ≤ w1.heap.size := by have := hb1.size; simp at this; omega
        have p1_0 : w1.cell? ⟨w.heap.size, 0, none⟩ = some (.int .i64 rel) := (hb1.cell (by simp)).trans (by go_simp)
        have p1_1 : w1.cell? ⟨w.heap.size, 1, none⟩ = some (.slice a1 terms.length cap1) := (hb1.cell (by simp)).trans (by go_simp)
        have p1_2 : w1.cell? ⟨w.heap.size, 2, none⟩ = some (.slice a2 ex.length cap2) := (hb1.cell (by simp)).trans (by go_simp)
        have p1_3 : w1.cell? ⟨w.heap.size, 3, none⟩ = some (.slice a3 un.length cap3) := (hb1.cell (by simp)).trans (by go_simp)
        clear hb1
        go_wp2_with fail
        refine (G1.out _ ?hb).mono ?_
        case hb => exact hbb1
        rintro e w2 ⟨rfl, hb2⟩
        have hbb2 : Below w.heap.size w w2 := hbb1.trans (hb2.mono (by omega))
        have hsz2 : w.heap.size + 1 ≤ w2.heap.size := by have := hb2.size; omega
        have p2_0 := (hb2.cell (p := ⟨w.heap.size, 0, none⟩) (by simp; try omega)).trans p1_0
        have p2_1 := (hb2.cell (p := ⟨w.heap.size, 1, none⟩) (by simp; try omega)).trans p1_1
        have p2_2 := (hb2.cell (p := ⟨w.heap.size, 2, none⟩) (by simp; try omega)).trans p1_2
        have p2_3 := (hb2.cell (p := ⟨w.heap.size, 3, none⟩) (by simp; try omega)).trans p1_3
        clear p1_0 p1_1 p1_2 p1_3
        clear hb2
        go_wp2_with fail
        refine (G2.out _ ?hb).mono ?_
        case hb => exact hbb2
        rintro e w3 ⟨rfl, hb3⟩
        have hbb3 : Below w.heap.size w w3 := hbb2.trans (hb3.mono (by omega))
        have hsz3 : w.heap.size + 1 ≤ w3.heap.size := by have := hb3.size; omega
        have p3_0 := (hb3.cell (p := ⟨w.heap.size, 0, none⟩) (by simp; try omega)).trans p2_0
        have p3_1 := (hb3.cell (p := ⟨w.heap.size, 1, none⟩) (by simp; try omega)).trans p2_1
        have p3_2 := (hb3.cell (p := ⟨w.heap.size, 2, none⟩) (by simp; try omega)).trans p2_2
        have p3_3 := (hb3.cell (p := ⟨w.heap.size, 3, none⟩) (by simp; try omega)).trans p2_3
        clear p2_0 p2_1 p2_2 p2_3
        clear hb3
        go_wp2
        go_ret
        exact ⟨rfl, hbb3⟩
set_option maxHeartbeats 1600000 in
theorem toRewritingStep_c {a1 : Option Addr} {cap1 : Nat} {a2 : Option Addr} {cap2 : Nat} {a3 : Option Addr} {cap3 : Nat} {x : Rst} {w : World} (hs : sizeRewritingStep x ≤ 1048576) (h : At cRst w x [.int .i64 x.atom.rel, .slice a1 x.atom.terms.length cap1, .slice a2 x.ex.length cap2, .slice a3 x.un.length cap3]) :
    Calls Try.prog 20 #[.agg #[.int .i64 x.atom.rel, .slice a1 x.atom.terms.length cap1, .slice a2 x.ex.length cap2, .slice a3 x.un.length cap3]] w fun e w' => (∃ a1' cap1' a2' cap2' a3' cap3', e = .returned (.agg #[.int .i64 x.atom.rel, .slice a1' x.atom.terms.length cap1', .slice a2' x.ex.length cap2', .slice a3' x.un.length cap3']) ∧ Own cRst w.heap.size w' x [.int .i64 x.atom.rel, .slice a1' x.atom.terms.length cap1', .slice a2' x.ex.length cap2', .slice a3' x.un.length cap3']) ∧ Below w.heap.size w w' := by
  unfold sizeRewritingStep at hs
  obtain ⟨k0, k1, k2⟩ := cRst_inv h
  clear h
  obtain ⟨⟨rel, terms⟩, ex, un⟩ := x
  simp only at *
  have H0 : Hid (∀ ww, Below w.heap.size w ww → Calls Try.prog 28 #[.agg #[.int .i64 rel, .slice a1 terms.length cap1]] ww fun e w' => (∃ a1' cap1', e = .returned (.agg #[.int .i64 rel, .slice a1' terms.length cap1']) ∧ Own cAtm ww.heap.size w' (Atm.mk rel terms) [.int .i64 rel, .slice a1' terms.length cap1']) ∧ Below ww.heap.size ww w') :=
    fun ww hb => toAtom_c (by omega) (At.below (c := cAtm) k0 hb (Nat.le_refl _))
  have H1 : Hid (∀ ww, Below w.heap.size w ww → Calls Try.prog 29 #[.slice a2 ex.length cap2] ww fun e w' => (∃ a2' cap2', e = .returned (.slice a2' ex.length cap2') ∧ Own (cSlice cInt) ww.heap.size w' ex [.slice a2' ex.length cap2']) ∧ Below ww.heap.size ww w') :=
    fun ww hb => toIntS_c (by omega) (At.below (c := (cSlice cInt)) k1 hb (Nat.le_refl _))
  have H2 : Hid (∀ ww, Below w.heap.size w ww → Calls Try.prog 29 #[.slice a3 un.length cap3] ww fun e w' => (∃ a3' cap3', e = .returned (.slice a3' un.length cap3') ∧ Own (cSlice cInt) ww.heap.size w' un [.slice a3' un.length cap3']) ∧ Below ww.heap.size ww w') :=
    fun ww hb => toIntS_c (by omega) (At.below (c := (cSlice cInt)) k2 hb (Nat.le_refl _))
  clear hs k0 k1 k2
  go_enter Try.func20, Try.ntmps20
  go_wp2_with fail
  refine (H0.out _ ?hb).mono ?_
  case hb => go_grown
  rintro e w1 ⟨⟨a1', cap1', rfl, ho0⟩, hb1⟩
  have hbb1 : Below w.heap.size w w1 := Below.trans (by go_grown) (hb1.mono (by simp; try omega))
  have hsz1 : w.heap.size + 3 ≤ w1.heap.size := by have := hb1.size; simp at this; omega
  have p1_0 : w1.cell? ⟨w.heap.size, 0, none⟩ = some (.int .i64 rel) := (hb1.cell (by simp; try omega)).trans (by go_simp)
  have o1_0 : w1.cell? ⟨w.heap.size + 1 + 1, 0, none⟩ = some (.int .i64 0) := (hb1.cell (by simp; try omega)).trans (by go_simp)
  have f1_0 : w1.frozen? ⟨w.heap.size + 1 + 1, 0, none⟩ = false := (hb1.frozen (by simp; try omega)).trans (by go_simp)
  have e1_0 : w1.cell? ⟨w.heap.size + 1, 0, none⟩ = some (.int .i64 0) := (hb1.cell (by simp; try omega)).trans (by go_simp)
  have g1_0 : w1.frozen? ⟨w.heap.size + 1, 0, none⟩ = false := (hb1.frozen (by simp; try omega)).trans (by go_simp)
  have p1_1 : w1.cell? ⟨w.heap.size, 1, none⟩ = some (.slice a1 terms.length cap1) := (hb1.cell (by simp; try omega)).trans (by go_simp)
  have o1_1 : w1.cell? ⟨w.heap.size + 1 + 1, 1, none⟩ = some (.slice none 0 0) := (hb1.cell (by simp; try omega)).trans (by go_simp)
  have f1_1 : w1.frozen? ⟨w.heap.size + 1 + 1, 1, none⟩ = false := (hb1.frozen (by simp; try omega)).trans (by go_simp)
  have e1_1 : w1.cell? ⟨w.heap.size + 1, 1, none⟩ = some (.slice none 0 0) := (hb1.cell (by simp; try omega)).trans (by go_simp)
  have g1_1 : w1.frozen? ⟨w.heap.size + 1, 1, none⟩ = false := (hb1.frozen (by simp; try omega)).trans (by go_simp)
  have p1_2 : w1.cell? ⟨w.heap.size, 2, none⟩ = some (.slice a2 ex.length cap2) := (hb1.cell (by simp; try omega)).trans (by go_simp)
  have o1_2 : w1.cell? ⟨w.heap.size + 1 + 1, 2, none⟩ = some (.slice none 0 0) := (hb1.cell (by simp; try omega)).trans (by go_simp)
  have f1_2 : w1.frozen? ⟨w.heap.size + 1 + 1, 2, none⟩ = false := (hb1.frozen (by simp; try omega)).trans (by go_simp)
  have e1_2 : w1.cell? ⟨w.heap.size + 1, 2, none⟩ = some (.slice none 0 0) := (hb1.cell (by simp; try omega)).trans (by go_simp)
  have g1_2 : w1.frozen? ⟨w.heap.size + 1, 2, none⟩ = false := (hb1.frozen (by simp; try omega)).trans (by go_simp)
  have p1_3 : w1.cell? ⟨w.heap.size, 3, none⟩ = some (.slice a3 un.length cap3) := (hb1.cell (by simp; try omega)).trans (by go_simp)
  have o1_3 : w1.cell? ⟨w.heap.size + 1 + 1, 3, none⟩ = some (.slice none 0 0) := (hb1.cell (by simp; try omega)).trans (by go_simp)
  have f1_3 : w1.frozen? ⟨w.heap.size + 1 + 1, 3, none⟩ = false := (hb1.frozen (by simp; try omega)).trans (by go_simp)
  have e1_3 : w1.cell? ⟨w.heap.size + 1, 3, none⟩ = some (.slice none 0 0) := (hb1.cell (by simp; try omega)).trans (by go_simp)
  have g1_3 : w1.frozen? ⟨w.heap.size + 1, 3, none⟩ = false := (hb1.frozen (by simp; try omega)).trans (by go_simp)
  have hR1 : w1.heap[w.heap.size + 1]? = some (.cells #[.int .i64 0, .slice none 0 0, .slice none 0 0, .slice none 0 0] 45 (0, 0)) := (hb1.block _ (by simp; try omega)).trans (by rw [Go.heap_alloc_old _ _ (by simp; try omega)]; exact heap_alloc2_new _ _ _)
  have u0 : OwnIn cAtm (w.heap.size + 3) w1.heap.size w1 (Atm.mk rel terms) _ := OwnIn.wide ho0 (by simp; try omega) (Nat.le_refl _)
  clear hb1 ho0
  go_wp2_with fail
  refine (H1.out _ ?hb).mono ?_
  case hb => exact ((hbb1).setCell (by simp; try omega) _).setCell (by simp; try omega) _
  rintro e w2 ⟨⟨a2', cap2', rfl, ho1⟩, hb2⟩
  have hW : ((w1.setCell ⟨w.heap.size + 1 + 1, 0, none⟩ (.int .i64 rel)).setCell ⟨w.heap.size + 1 + 1, 1, none⟩ (.slice a1' terms.length cap1')).heap.size = w1.heap.size := by simp [World.setCell]
  rw [hW] at ho1 hb2
  have hbb2 : Below w.heap.size w w2 := (((hbb1.setCell (p := ⟨w.heap.size + 1 + 1, 0, none⟩) (by simp; try omega) _).setCell (p := ⟨w.heap.size + 1 + 1, 1, none⟩) (by simp; try omega) _)).trans (hb2.mono (by omega))
  have hsz2 : w.heap.size + 3 ≤ w2.heap.size := by have := hb2.size; rw [hW] at this; omega
  have p2_0 := (hb2.cell (p := ⟨w.heap.size, 0, none⟩) (by simp; try omega)).trans ((World.cell?_setCell_other _ _ _ _ (by first | (simp; done) | (simp; omega))).trans ((World.cell?_setCell_other _ _ _ _ (by first | (simp; done) | (simp; omega))).trans p1_0))
  have o2_0 := (hb2.cell (p := ⟨w.heap.size + 1 + 1, 0, none⟩) (by simp; try omega)).trans ((World.cell?_setCell_other _ _ _ _ (by first | (simp; done) | (simp; omega))).trans (World.cell?_setCell_same _ _ _ o1_0))
  have f2_0 := (hb2.frozen (p := ⟨w.heap.size + 1 + 1, 0, none⟩) (by simp; try omega)).trans ((World.frozen?_setCell _ _ _ _).trans ((World.frozen?_setCell _ _ _ _).trans f1_0))
  have e2_0 := (hb2.cell (p := ⟨w.heap.size + 1, 0, none⟩) (by simp; try omega)).trans ((World.cell?_setCell_other _ _ _ _ (by first | (simp; done) | (simp; omega))).trans ((World.cell?_setCell_other _ _ _ _ (by first | (simp; done) | (simp; omega))).trans e1_0))
  have g2_0 := (hb2.frozen (p := ⟨w.heap.size + 1, 0, none⟩) (by simp; try omega)).trans ((World.frozen?_setCell _ _ _ _).trans ((World.frozen?_setCell _ _ _ _).trans g1_0))
  have p2_1 := (hb2.cell (p := ⟨w.heap.size, 1, none⟩) (by simp; try omega)).trans ((World.cell?_setCell_other _ _ _ _ (by first | (simp; done) | (simp; omega))).trans ((World.cell?_setCell_other _ _ _ _ (by first | (simp; done) | (simp; omega))).trans p1_1))
  have o2_1 := (hb2.cell (p := ⟨w.heap.size + 1 + 1, 1, none⟩) (by simp; try omega)).trans (World.cell?_setCell_same _ _ _ ((World.cell?_setCell_other _ _ _ _ (by first | (simp; done) | (simp; omega))).trans o1_1))
  have f2_1 := (hb2.frozen (p := ⟨w.heap.size + 1 + 1, 1, none⟩) (by simp; try omega)).trans ((World.frozen?_setCell _ _ _ _).trans ((World.frozen?_setCell _ _ _ _).trans f1_1))
  have e2_1 := (hb2.cell (p := ⟨w.heap.size + 1, 1, none⟩) (by simp; try omega)).trans ((World.cell?_setCell_other _ _ _ _ (by first | (simp; done) | (simp; omega))).trans ((World.cell?_setCell_other _ _ _ _ (by first | (simp; done) | (simp; omega))).trans e1_1))
  have g2_1 := (hb2.frozen (p := ⟨w.heap.size + 1, 1, none⟩) (by simp; try omega)).trans ((World.frozen?_setCell _ _ _ _).trans ((World.frozen?_setCell _ _ _ _).trans g1_1))
  have p2_2 := (hb2.cell (p := ⟨w.heap.size, 2, none⟩) (by simp; try omega)).trans ((World.cell?_setCell_other _ _ _ _ (by first | (simp; done) | (simp; omega))).trans ((World.cell?_setCell_other _ _ _ _ (by first | (simp; done) | (simp; omega))).trans p1_2))
  have o2_2 := (hb2.cell (p := ⟨w.heap.size + 1 + 1, 2, none⟩) (by simp; try omega)).trans ((World.cell?_setCell_other _ _ _ _ (by first | (simp; done) | (simp; omega))).trans ((World.cell?_setCell_other _ _ _ _ (by first | (simp; done) | (simp; omega))).trans o1_2))
  have f2_2 := (hb2.frozen (p := ⟨w.heap.size + 1 + 1, 2, none⟩) (by simp; try omega)).trans ((World.frozen?_setCell _ _ _ _).trans ((World.frozen?_setCell _ _ _ _).trans f1_2))
  have e2_2 := (hb2.cell (p := ⟨w.heap.size + 1, 2, none⟩) (by simp; try omega)).trans ((World.cell?_setCell_other _ _ _ _ (by first | (simp; done) | (simp; omega))).trans ((World.cell?_setCell_other _ _ _ _ (by first | (simp; done) | (simp; omega))).trans e1_2))
  have g2_2 := (hb2.frozen (p := ⟨w.heap.size + 1, 2, none⟩) (by simp; try omega)).trans ((World.frozen?_setCell _ _ _ _).trans ((World.frozen?_setCell _ _ _ _).trans g1_2))
  have p2_3 := (hb2.cell (p := ⟨w.heap.size, 3, none⟩) (by simp; try omega)).trans ((World.cell?_setCell_other _ _ _ _ (by first | (simp; done) | (simp; omega))).trans ((World.cell?_setCell_other _ _ _ _ (by first | (simp; done) | (simp; omega))).trans p1_3))
  have o2_3 := (hb2.cell (p := ⟨w.heap.size + 1 + 1, 3, none⟩) (by simp; try omega)).trans ((World.cell?_setCell_other _ _ _ _ (by first | (simp; done) | (simp; omega))).trans ((World.cell?_setCell_other _ _ _ _ (by first | (simp; done) | (simp; omega))).trans o1_3))
  have f2_3 := (hb2.frozen (p := ⟨w.heap.size + 1 + 1, 3, none⟩) (by simp; try omega)).trans ((World.frozen?_setCell _ _ _ _).trans ((World.frozen?_setCell _ _ _ _).trans f1_3))
  have e2_3 := (hb2.cell (p := ⟨w.heap.size + 1, 3, none⟩) (by simp; try omega)).trans ((World.cell?_setCell_other _ _ _ _ (by first | (simp; done) | (simp; omega))).trans ((World.cell?_setCell_other _ _ _ _ (by first | (simp; done) | (simp; omega))).trans e1_3))
  have g2_3 := (hb2.frozen (p := ⟨w.heap.size + 1, 3, none⟩) (by simp; try omega)).trans ((World.frozen?_setCell _ _ _ _).trans ((World.frozen?_setCell _ _ _ _).trans g1_3))
  have hR2 := (hb2.block (w.heap.size + 1) (by omega)).trans ((heap_setCell_other _ _ _ _ (by simp)).trans ((heap_setCell_other _ _ _ _ (by simp)).trans hR1))
  have u0 := (OwnIn.setCell (OwnIn.setCell u0 (p := ⟨w.heap.size + 1 + 1, 0, none⟩) (by simp; try omega) (.int .i64 rel)) (p := ⟨w.heap.size + 1 + 1, 1, none⟩) (by simp; try omega) (.slice a1' terms.length cap1')).below hb2 (by omega)
  have u1 : OwnIn (cSlice cInt) w1.heap.size w2.heap.size w2 ex _ := ho1
  have hm1 := hb2.size
  rw [hW] at hm1
  clear hW p1_0 o1_0 f1_0 e1_0 g1_0 p1_1 o1_1 f1_1 e1_1 g1_1 p1_2 o1_2 f1_2 e1_2 g1_2 p1_3 o1_3 f1_3 e1_3 g1_3 hR1
  clear hb2 ho1
  go_wp2_with fail
  refine (H2.out _ ?hb).mono ?_
  case hb => exact (hbb2).setCell (by simp; try omega) _
  rintro e w3 ⟨⟨a3', cap3', rfl, ho2⟩, hb3⟩
  have hW : (w2.setCell ⟨w.heap.size + 1 + 1, 2, none⟩ (.slice a2' ex.length cap2')).heap.size = w2.heap.size := by simp [World.setCell]
  rw [hW] at ho2 hb3
  have hbb3 : Below w.heap.size w w3 := ((hbb2.setCell (p := ⟨w.heap.size + 1 + 1, 2, none⟩) (by simp; try omega) _)).trans (hb3.mono (by omega))
  have hsz3 : w.heap.size + 3 ≤ w3.heap.size := by have := hb3.size; rw [hW] at this; omega
  have p3_0 := (hb3.cell (p := ⟨w.heap.size, 0, none⟩) (by simp; try omega)).trans ((World.cell?_setCell_other _ _ _ _ (by first | (simp; done) | (simp; omega))).trans p2_0)
  have o3_0 := (hb3.cell (p := ⟨w.heap.size + 1 + 1, 0, none⟩) (by simp; try omega)).trans ((World.cell?_setCell_other _ _ _ _ (by first | (simp; done) | (simp; omega))).trans o2_0)
  have f3_0 := (hb3.frozen (p := ⟨w.heap.size + 1 + 1, 0, none⟩) (by simp; try omega)).trans ((World.frozen?_setCell _ _ _ _).trans f2_0)
  have e3_0 := (hb3.cell (p := ⟨w.heap.size + 1, 0, none⟩) (by simp; try omega)).trans ((World.cell?_setCell_other _ _ _ _ (by first | (simp; done) | (simp; omega))).trans e2_0)
  have g3_0 := (hb3.frozen (p := ⟨w.heap.size + 1, 0, none⟩) (by simp; try omega)).trans ((World.frozen?_setCell _ _ _ _).trans g2_0)
  have p3_1 := (hb3.cell (p := ⟨w.heap.size, 1, none⟩) (by simp; try omega)).trans ((World.cell?_setCell_other _ _ _ _ (by first | (simp; done) | (simp; omega))).trans p2_1)
  have o3_1 := (hb3.cell (p := ⟨w.heap.size + 1 + 1, 1, none⟩) (by simp; try omega)).trans ((World.cell?_setCell_other _ _ _ _ (by first | (simp; done) | (simp; omega))).trans o2_1)
  have f3_1 := (hb3.frozen (p := ⟨w.heap.size + 1 + 1, 1, none⟩) (by simp; try omega)).trans ((World.frozen?_setCell _ _ _ _).trans f2_1)
  have e3_1 := (hb3.cell (p := ⟨w.heap.size + 1, 1, none⟩) (by simp; try omega)).trans ((World.cell?_setCell_other _ _ _ _ (by first | (simp; done) | (simp; omega))).trans e2_1)
  have g3_1 := (hb3.frozen (p := ⟨w.heap.size + 1, 1, none⟩) (by simp; try omega)).trans ((World.frozen?_setCell _ _ _ _).trans g2_1)
  have p3_2 := (hb3.cell (p := ⟨w.heap.size, 2, none⟩) (by simp; try omega)).trans ((World.cell?_setCell_other _ _ _ _ (by first | (simp; done) | (simp; omega))).trans p2_2)
  have o3_2 := (hb3.cell (p := ⟨w.heap.size + 1 + 1, 2, none⟩) (by simp; try omega)).trans (World.cell?_setCell_same _ _ _ o2_2)
  have f3_2 := (hb3.frozen (p := ⟨w.heap.size + 1 + 1, 2, none⟩) (by simp; try omega)).trans ((World.frozen?_setCell _ _ _ _).trans f2_2)
  have e3_2 := (hb3.cell (p := ⟨w.heap.size + 1, 2, none⟩) (by simp; try omega)).trans ((World.cell?_setCell_other _ _ _ _ (by first | (simp; done) | (simp; omega))).trans e2_2)
  have g3_2 := (hb3.frozen (p := ⟨w.heap.size + 1, 2, none⟩) (by simp; try omega)).trans ((World.frozen?_setCell _ _ _ _).trans g2_2)
  have p3_3 := (hb3.cell (p := ⟨w.heap.size, 3, none⟩) (by simp; try omega)).trans ((World.cell?_setCell_other _ _ _ _ (by first | (simp; done) | (simp; omega))).trans p2_3)
  have o3_3 := (hb3.cell (p := ⟨w.heap.size + 1 + 1, 3, none⟩) (by simp; try omega)).trans ((World.cell?_setCell_other _ _ _ _ (by first | (simp; done) | (simp; omega))).trans o2_3)
  have f3_3 := (hb3.frozen (p := ⟨w.heap.size + 1 + 1, 3, none⟩) (by simp; try omega)).trans ((World.frozen?_setCell _ _ _ _).trans f2_3)
  have e3_3 := (hb3.cell (p := ⟨w.heap.size + 1, 3, none⟩) (by simp; try omega)).trans ((World.cell?_setCell_other _ _ _ _ (by first | (simp; done) | (simp; omega))).trans e2_3)
  have g3_3 := (hb3.frozen (p := ⟨w.heap.size + 1, 3, none⟩) (by simp; try omega)).trans ((World.frozen?_setCell _ _ _ _).trans g2_3)
  have hR3 := (hb3.block (w.heap.size + 1) (by omega)).trans ((heap_setCell_other _ _ _ _ (by simp)).trans hR2)
  have u0 := (OwnIn.setCell u0 (p := ⟨w.heap.size + 1 + 1, 2, none⟩) (by simp; try omega) (.slice a2' ex.length cap2')).below hb3 (by have := hm1; omega)
  have u1 := (OwnIn.setCell u1 (p := ⟨w.heap.size + 1 + 1, 2, none⟩) (by simp; try omega) (.slice a2' ex.length cap2')).below hb3 (by omega)
  have u2 : OwnIn (cSlice cInt) w2.heap.size w3.heap.size w3 un _ := ho2
  have hm2 := hb3.size
  rw [hW] at hm2
  clear hW p2_0 o2_0 f2_0 e2_0 g2_0 p2_1 o2_1 f2_1 e2_1 g2_1 p2_2 o2_2 f2_2 e2_2 g2_2 p2_3 o2_3 f2_3 e2_3 g2_3 hR2
  clear hb3 ho2
  have U0 := Lib.hid u0
  have U1 := Lib.hid u1
  have U2 := Lib.hid u2
  clear u0 u1 u2
  go_wp2
  (try simp only [Exit.inBlock, Exit.then])
  refine bodyPost_ret (results_cell_row rfl _ _ (w.heap.size + 1) _ _ _ _ rfl (heap_setCell_same _ _ 3 _ _ _ (heap_setCell_same _ _ 2 _ _ _ (heap_setCell_same _ _ 1 _ _ _ (heap_setCell_same _ _ 0 _ _ _ ((heap_setCell_other _ _ _ _ (by simp)).trans (hR3)))))) Try.underlying45 rfl (by kernel_rfl)) rfl ?_
  exact ⟨⟨_, _, _, _, _, _, rfl, OwnIn.own (cRst_own (x := ⟨⟨rel, terms⟩, ex, un⟩) (lo := w.heap.size) (hi := w3.heap.size) ((((((U0.out).setCell (by simp; try omega) _).setCell (by simp; try omega) _).setCell (by simp; try omega) _).setCell (by simp; try omega) _).setCell (by simp; try omega) _) (by omega) ((((((U1.out).setCell (by simp; try omega) _).setCell (by simp; try omega) _).setCell (by simp; try omega) _).setCell (by simp; try omega) _).setCell (by simp; try omega) _) (by omega) ((((((U2.out).setCell (by simp; try omega) _).setCell (by simp; try omega) _).setCell (by simp; try omega) _).setCell (by simp; try omega) _).setCell (by simp; try omega) _) (by omega) (by omega) (by omega) (by omega) (by omega)) (by simp [World.setCell])⟩, (((((hbb3).setCell (by simp; try omega) _).setCell (by simp; try omega) _).setCell (by simp; try omega) _).setCell (by simp; try omega) _).setCell (by simp; try omega) _⟩
theorem eqRewritingStep_c {a1 : Option Addr} {cap1 : Nat} {a2 : Option Addr} {cap2 : Nat} {a3 : Option Addr} {cap3 : Nat} {a1' : Option Addr} {cap1' : Nat} {a2' : Option Addr} {cap2' : Nat} {a3' : Option Addr} {cap3' : Nat} {x y : Rst} {w : World} (h : At cRst w x [.int .i64 x.atom.rel, .slice a1 x.atom.terms.length cap1, .slice a2 x.ex.length cap2, .slice a3 x.un.length cap3]) (h' : At cRst w y [.int .i64 y.atom.rel, .slice a1' y.atom.terms.length cap1', .slice a2' y.ex.length cap2', .slice a3' y.un.length cap3']) :
    Calls Try.prog 23 #[.agg #[.int .i64 x.atom.rel, .slice a1 x.atom.terms.length cap1, .slice a2 x.ex.length cap2, .slice a3 x.un.length cap3], .agg #[.int .i64 y.atom.rel, .slice a1' y.atom.terms.length cap1', .slice a2' y.ex.length cap2', .slice a3' y.un.length cap3']] w fun e w' => e = .returned (.bool (decide (x = y))) ∧ Below w.heap.size w w' := by
  obtain ⟨k0, k1, k2⟩ := cRst_inv h
  obtain ⟨m0, m1, m2⟩ := cRst_inv h'
  clear h h'
  obtain ⟨⟨rel, terms⟩, ex, un⟩ := x
  obtain ⟨⟨rel', terms'⟩, ex', un'⟩ := y
  have he : decide (Rst.mk (Atm.mk rel terms) ex un = Rst.mk (Atm.mk rel' terms') ex' un') = (decide ((Atm.mk rel terms) = (Atm.mk rel' terms')) && (decide (ex = ex') && decide (un = un'))) := by
    simp only [← Bool.decide_and]; congr 1; rw [Rst.mk.injEq]
  rw [he]
  clear he
  simp only at *
  have H0 : Hid (∀ ww, Below w.heap.size w ww → Calls Try.prog 35 #[.agg #[.int .i64 rel, .slice a1 terms.length cap1], .agg #[.int .i64 rel', .slice a1' terms'.length cap1']] ww fun e w' => e = .returned (.bool (decide ((Atm.mk rel terms) = (Atm.mk rel' terms')))) ∧ Below ww.heap.size ww w') :=
    fun ww hb => eqAtom_c (At.below (c := cAtm) k0 hb (Nat.le_refl _)) (At.below (c := cAtm) m0 hb (Nat.le_refl _))
  have H1 : Hid (∀ ww, Below w.heap.size w ww → Calls Try.prog 36 #[.slice a2 ex.length cap2, .slice a2' ex'.length cap2'] ww fun e w' => e = .returned (.bool (decide (ex = ex'))) ∧ Below ww.heap.size ww w') :=
    fun ww hb => eqIntS_c (At.below (c := (cSlice cInt)) k1 hb (Nat.le_refl _)) (At.below (c := (cSlice cInt)) m1 hb (Nat.le_refl _))
  have H2 : Hid (∀ ww, Below w.heap.size w ww → Calls Try.prog 36 #[.slice a3 un.length cap3, .slice a3' un'.length cap3'] ww fun e w' => e = .returned (.bool (decide (un = un'))) ∧ Below ww.heap.size ww w') :=
    fun ww hb => eqIntS_c (At.below (c := (cSlice cInt)) k2 hb (Nat.le_refl _)) (At.below (c := (cSlice cInt)) m2 hb (Nat.le_refl _))
  clear k0 m0 k1 m1 k2 m2
  generalize decide ((Atm.mk rel terms) = (Atm.mk rel' terms')) = z0 at *
  cases z0 with
  | true =>
    rw [Bool.true_and]
    generalize decide (ex = ex') = z1 at *
    cases z1 with
    | true =>
      rw [Bool.true_and]
      generalize decide (un = un') = z2 at *
      cases z2 with
      | true =>
        go_enter Try.func23, Try.ntmps23
        go_wp2_with fail
        refine (H0.out _ ?hb).mono ?_
        case hb => go_grown
        rintro e w1 ⟨rfl, hb1⟩
        have hbb1 : Below w.heap.size w w1 := Below.trans (by go_grown) (hb1.mono (by simp; try omega))
        have hsz1 : w.heap.size + 2 ≤ w1.heap.size := by have := hb1.size; simp at this; omega
        have p1_0 : w1.cell? ⟨w.heap.size, 0, none⟩ = some (.int .i64 rel) := (hb1.cell (by simp; try omega)).trans (by go_simp)
        have r1_0 : w1.cell? ⟨w.heap.size + 1, 0, none⟩ = some (.int .i64 rel') := (hb1.cell (by simp; try omega)).trans (by go_simp)
        have p1_1 : w1.cell? ⟨w.heap.size, 1, none⟩ = some (.slice a1 terms.length cap1) := (hb1.cell (by simp; try omega)).trans (by go_simp)
        have r1_1 : w1.cell? ⟨w.heap.size + 1, 1, none⟩ = some (.slice a1' terms'.length cap1') := (hb1.cell (by simp; try omega)).trans (by go_simp)
        have p1_2 : w1.cell? ⟨w.heap.size, 2, none⟩ = some (.slice a2 ex.length cap2) := (hb1.cell (by simp; try omega)).trans (by go_simp)
        have r1_2 : w1.cell? ⟨w.heap.size + 1, 2, none⟩ = some (.slice a2' ex'.length cap2') := (hb1.cell (by simp; try omega)).trans (by go_simp)
        have p1_3 : w1.cell? ⟨w.heap.size, 3, none⟩ = some (.slice a3 un.length cap3) := (hb1.cell (by simp; try omega)).trans (by go_simp)
        have r1_3 : w1.cell? ⟨w.heap.size + 1, 3, none⟩ = some (.slice a3' un'.length cap3') := (hb1.cell (by simp; try omega)).trans (by go_simp)
        clear hb1
        go_wp2_with fail
        refine (H1.out _ ?hb).mono ?_
        case hb => exact hbb1
        rintro e w2 ⟨rfl, hb2⟩
        have hbb2 : Below w.heap.size w w2 := hbb1.trans (hb2.mono (by omega))
        have hsz2 : w.heap.size + 2 ≤ w2.heap.size := by have := hb2.size; omega
        have p2_0 := (hb2.cell (p := ⟨w.heap.size, 0, none⟩) (by simp; try omega)).trans p1_0
        have r2_0 := (hb2.cell (p := ⟨w.heap.size + 1, 0, none⟩) (by simp; try omega)).trans r1_0
        have p2_1 := (hb2.cell (p := ⟨w.heap.size, 1, none⟩) (by simp; try omega)).trans p1_1
        have r2_1 := (hb2.cell (p := ⟨w.heap.size + 1, 1, none⟩) (by simp; try omega)).trans r1_1
        have p2_2 := (hb2.cell (p := ⟨w.heap.size, 2, none⟩) (by simp; try omega)).trans p1_2
        have r2_2 := (hb2.cell (p := ⟨w.heap.size + 1, 2, none⟩) (by simp; try omega)).trans r1_2
        have p2_3 := (hb2.cell (p := ⟨w.heap.size, 3, none⟩) (by simp; try omega)).trans p1_3
        have r2_3 := (hb2.cell (p := ⟨w.heap.size + 1, 3, none⟩) (by simp; try omega)).trans r1_3
        clear p1_0 r1_0 p1_1 r1_1 p1_2 r1_2 p1_3 r1_3
        clear hb2
        go_wp2_with fail
        refine (H2.out _ ?hb).mono ?_
        case hb => exact hbb2
        rintro e w3 ⟨rfl, hb3⟩
        have hbb3 : Below w.heap.size w w3 := hbb2.trans (hb3.mono (by omega))
        have hsz3 : w.heap.size + 2 ≤ w3.heap.size := by have := hb3.size; omega
        have p3_0 := (hb3.cell (p := ⟨w.heap.size, 0, none⟩) (by simp; try omega)).trans p2_0
        have r3_0 := (hb3.cell (p := ⟨w.heap.size + 1, 0, none⟩) (by simp; try omega)).trans r2_0
        have p3_1 := (hb3.cell (p := ⟨w.heap.size, 1, none⟩) (by simp; try omega)).trans p2_1
        have r3_1 := (hb3.cell (p := ⟨w.heap.size + 1, 1, none⟩) (by simp; try omega)).trans r2_1
        have p3_2 := (hb3.cell (p := ⟨w.heap.size, 2, none⟩) (by simp; try omega)).trans p2_2
        have r3_2 := (hb3.cell (p := ⟨w.heap.size + 1, 2, none⟩) (by simp; try omega)).trans r2_2
        have p3_3 := (hb3.cell (p := ⟨w.heap.size, 3, none⟩) (by simp; try omega)).trans p2_3
        have r3_3 := (hb3.cell (p := ⟨w.heap.size + 1, 3, none⟩) (by simp; try omega)).trans r2_3
        clear p2_0 r2_0 p2_1 r2_1 p2_2 r2_2 p2_3 r2_3
        clear hb3
        go_wp2
        go_ret
        exact ⟨by simp, hbb3⟩
      | false =>
        go_enter Try.func23, Try.ntmps23
        go_wp2_with fail
        refine (H0.out _ ?hb).mono ?_
        case hb => go_grown
        rintro e w1 ⟨rfl, hb1⟩
        have hbb1 : Below w.heap.size w w1 := Below.trans (by go_grown) (hb1.mono (by simp; try omega))
        have hsz1 : w.heap.size + 2 ≤ w1.heap.size := by have := hb1.size; simp at this; omega
        have p1_0 : w1.cell? ⟨w.heap.size, 0, none⟩ = some (.int .i64 rel) := (hb1.cell (by simp; try omega)).trans (by go_simp)
        have r1_0 : w1.cell? ⟨w.heap.size + 1, 0, none⟩ = some (.int .i64 rel') := (hb1.cell (by simp; try omega)).trans (by go_simp)
        have p1_1 : w1.cell? ⟨w.heap.size, 1, none⟩ = some (.slice a1 terms.length cap1) := (hb1.cell (by simp; try omega)).trans (by go_simp)
        have r1_1 : w1.cell? ⟨w.heap.size + 1, 1, none⟩ = some (.slice a1' terms'.length cap1') := (hb1.cell (by simp; try omega)).trans (by go_simp)
        have p1_2 : w1.cell? ⟨w.heap.size, 2, none⟩ = some (.slice a2 ex.length cap2) := (hb1.cell (by simp; try omega)).trans (by go_simp)
        have r1_2 : w1.cell? ⟨w.heap.size + 1, 2, none⟩ = some (.slice a2' ex'.length cap2') := (hb1.cell (by simp; try omega)).trans (by go_simp)
        have p1_3 : w1.cell? ⟨w.heap.size, 3, none⟩ = some (.slice a3 un.length cap3) := (hb1.cell (by simp; try omega)).trans (by go_simp)
        have r1_3 : w1.cell? ⟨w.heap.size + 1, 3, none⟩ = some (.slice a3' un'.length cap3') := (hb1.cell (by simp; try omega)).trans (by go_simp)
        clear hb1
        go_wp2_with fail
        refine (H1.out _ ?hb).mono ?_
        case hb => exact hbb1
        rintro e w2 ⟨rfl, hb2⟩
        have hbb2 : Below w.heap.size w w2 := hbb1.trans (hb2.mono (by omega))
        have hsz2 : w.heap.size + 2 ≤ w2.heap.size := by have := hb2.size; omega
        have p2_0 := (hb2.cell (p := ⟨w.heap.size, 0, none⟩) (by simp; try omega)).trans p1_0
        have r2_0 := (hb2.cell (p := ⟨w.heap.size + 1, 0, none⟩) (by simp; try omega)).trans r1_0
        have p2_1 := (hb2.cell (p := ⟨w.heap.size, 1, none⟩) (by simp; try omega)).trans p1_1
        have r2_1 := (hb2.cell (p := ⟨w.heap.size + 1, 1, none⟩) (by simp; try omega)).trans r1_1
        have p2_2 := (hb2.cell (p := ⟨w.heap.size, 2, none⟩) (by simp; try omega)).trans p1_2
        have r2_2 := (hb2.cell (p := ⟨w.heap.size + 1, 2, none⟩) (by simp; try omega)).trans r1_2
        have p2_3 := (hb2.cell (p := ⟨w.heap.size, 3, none⟩) (by simp; try omega)).trans p1_3
        have r2_3 := (hb2.cell (p := ⟨w.heap.size + 1, 3, none⟩) (by simp; try omega)).trans r1_3
        clear p1_0 r1_0 p1_1 r1_1 p1_2 r1_2 p1_3 r1_3
        clear hb2
        go_wp2_with fail
        refine (H2.out _ ?hb).mono ?_
        case hb => exact hbb2
        rintro e w3 ⟨rfl, hb3⟩
        have hbb3 : Below w.heap.size w w3 := hbb2.trans (hb3.mono (by omega))
        have hsz3 : w.heap.size + 2 ≤ w3.heap.size := by have := hb3.size; omega
        have p3_0 := (hb3.cell (p := ⟨w.heap.size, 0, none⟩) (by simp; try omega)).trans p2_0
        have r3_0 := (hb3.cell (p := ⟨w.heap.size + 1, 0, none⟩) (by simp; try omega)).trans r2_0
        have p3_1 := (hb3.cell (p := ⟨w.heap.size, 1, none⟩) (by simp; try omega)).trans p2_1
        have r3_1 := (hb3.cell (p := ⟨w.heap.size + 1, 1, none⟩) (by simp; try omega)).trans r2_1
        have p3_2 := (hb3.cell (p := ⟨w.heap.size, 2, none⟩) (by simp; try omega)).trans p2_2
        have r3_2 := (hb3.cell (p := ⟨w.heap.size + 1, 2, none⟩) (by simp; try omega)).trans r2_2
        have p3_3 := (hb3.cell (p := ⟨w.heap.size, 3, none⟩) (by simp; try omega)).trans p2_3
        have r3_3 := (hb3.cell (p := ⟨w.heap.size + 1, 3, none⟩) (by simp; try omega)).trans r2_3
        clear p2_0 r2_0 p2_1 r2_1 p2_2 r2_2 p2_3 r2_3
        clear hb3
        go_wp2
        go_ret
        exact ⟨by simp, hbb3⟩
    | false =>
      rw [Bool.false_and]
      go_enter Try.func23, Try.ntmps23
      go_wp2_with fail
      refine (H0.out _ ?hb).mono ?_
      case hb => go_grown
      rintro e w1 ⟨rfl, hb1⟩
      have hbb1 : Below w.heap.size w w1 := Below.trans (by go_grown) (hb1.mono (by simp; try omega))
      have hsz1 : w.heap.size + 2 ≤ w1.heap.size := by have := hb1.size; simp at this; omega
      have p1_0 : w1.cell? ⟨w.heap.size, 0, none⟩ = some (.int .i64 rel) := (hb1.cell (by simp; try omega)).trans (by go_simp)
      have r1_0 : w1.cell? ⟨w.heap.size + 1, 0, none⟩ = some (.int .i64 rel') := (hb1.cell (by simp; try omega)).trans (by go_simp)
      have p1_1 : w1.cell? ⟨w.heap.size, 1, none⟩ = some (.slice a1 terms.length cap1) := (hb1.cell (by simp; try omega)).trans (by go_simp)
      have r1_1 : w1.cell? ⟨w.heap.size + 1, 1, none⟩ = some (.slice a1' terms'.length cap1') := (hb1.cell (by simp; try omega)).trans (by go_simp)
      have p1_2 : w1.cell? ⟨w.heap.size, 2, none⟩ = some (.slice a2 ex.length cap2) := (hb1.cell (by simp; try omega)).trans (by go_simp)
      have r1_2 : w1.cell? ⟨w.heap.size + 1, 2, none⟩ = some (.slice a2' ex'.length cap2') := (hb1.cell (by simp; try omega)).trans (by go_simp)
      have p1_3 : w1.cell? ⟨w.heap.size, 3, none⟩ = some (.slice a3 un.length cap3) := (hb1.cell (by simp; try omega)).trans (by go_simp)
      have r1_3 : w1.cell? ⟨w.heap.size + 1, 3, none⟩ = some (.slice a3' un'.length cap3') := (hb1.cell (by simp; try omega)).trans (by go_simp)
      clear hb1
      go_wp2_with fail
      refine (H1.out _ ?hb).mono ?_
      case hb => exact hbb1
      rintro e w2 ⟨rfl, hb2⟩
      have hbb2 : Below w.heap.size w w2 := hbb1.trans (hb2.mono (by omega))
      have hsz2 : w.heap.size + 2 ≤ w2.heap.size := by have := hb2.size; omega
      have p2_0 := (hb2.cell (p := ⟨w.heap.size, 0, none⟩) (by simp; try omega)).trans p1_0
      have r2_0 := (hb2.cell (p := ⟨w.heap.size + 1, 0, none⟩) (by simp; try omega)).trans r1_0
      have p2_1 := (hb2.cell (p := ⟨w.heap.size, 1, none⟩) (by simp; try omega)).trans p1_1
      have r2_1 := (hb2.cell (p := ⟨w.heap.size + 1, 1, none⟩) (by simp; try omega)).trans r1_1
      have p2_2 := (hb2.cell (p := ⟨w.heap.size, 2, none⟩) (by simp; try omega)).trans p1_2
      have r2_2 := (hb2.cell (p := ⟨w.heap.size + 1, 2, none⟩) (by simp; try omega)).trans r1_2
      have p2_3 := (hb2.cell (p := ⟨w.heap.size, 3, none⟩) (by simp; try omega)).trans p1_3
      have r2_3 := (hb2.cell (p := ⟨w.heap.size + 1, 3, none⟩) (by simp; try omega)).trans r1_3
      clear p1_0 r1_0 p1_1 r1_1 p1_2 r1_2 p1_3 r1_3
      clear hb2
      go_wp2
      go_ret
      exact ⟨by simp, hbb2⟩
  | false =>
    rw [Bool.false_and]
    go_enter Try.func23, Try.ntmps23
    go_wp2_with fail
    refine (H0.out _ ?hb).mono ?_
    case hb => go_grown
    rintro e w1 ⟨rfl, hb1⟩
    have hbb1 : Below w.heap.size w w1 := Below.trans (by go_grown) (hb1.mono (by simp; try omega))
    have hsz1 : w.heap.size + 2 ≤ w1.heap.size := by have := hb1.size; simp at this; omega
    have p1_0 : w1.cell? ⟨w.heap.size, 0, none⟩ = some (.int .i64 rel) := (hb1.cell (by simp; try omega)).trans (by go_simp)
    have r1_0 : w1.cell? ⟨w.heap.size + 1, 0, none⟩ = some (.int .i64 rel') := (hb1.cell (by simp; try omega)).trans (by go_simp)
    have p1_1 : w1.cell? ⟨w.heap.size, 1, none⟩ = some (.slice a1 terms.length cap1) := (hb1.cell (by simp; try omega)).trans (by go_simp)
    have r1_1 : w1.cell? ⟨w.heap.size + 1, 1, none⟩ = some (.slice a1' terms'.length cap1') := (hb1.cell (by simp; try omega)).trans (by go_simp)
    have p1_2 : w1.cell? ⟨w.heap.size, 2, none⟩ = some (.slice a2 ex.length cap2) := (hb1.cell (by simp; try omega)).trans (by go_simp)
    have r1_2 : w1.cell? ⟨w.heap.size + 1, 2, none⟩ = some (.slice a2' ex'.length cap2') := (hb1.cell (by simp; try omega)).trans (by go_simp)
    have p1_3 : w1.cell? ⟨w.heap.size, 3, none⟩ = some (.slice a3 un.length cap3) := (hb1.cell (by simp; try omega)).trans (by go_simp)
    have r1_3 : w1.cell? ⟨w.heap.size + 1, 3, none⟩ = some (.slice a3' un'.length cap3') := (hb1.cell (by simp; try omega)).trans (by go_simp)
    clear hb1
    go_wp2
    go_ret
    exact ⟨by simp, hbb1⟩
end Go.Proofs.Ytlcogbmceanghaa

