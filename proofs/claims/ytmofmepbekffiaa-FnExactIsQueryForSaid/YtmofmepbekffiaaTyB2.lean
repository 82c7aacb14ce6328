/- Structs: readings, the laws' helpers on them (size, copy, equality). -/
import Derived.Test.YtmofmepbekffiaaTyB
namespace Go.Proofs.Ytmofmepbekffiaa
open Go.RowKit
set_option linter.unusedVariables false
set_option maxRecDepth 100000

/-- A fact: its relation's place, its values. -/
structure Fct where
  rel : Int
  vals : List Int
deriving DecidableEq
def cFct : Cod Fct := cMap (fun x => (x.rel, x.vals)) (cPair cInt (cSlice cInt))
theorem cFct_fields {B : Nat} {w : World} {x : Fct} {cs : List Value} (h : cFct.ok B w x cs) : ∃ a1 cap1, cs = [.int .i64 x.rel, .slice a1 x.vals.length cap1] ∧ (cSlice cInt).ok B w x.vals [.slice a1 x.vals.length cap1] ∧ inR x.rel := by
  obtain ⟨_, _, rfl, h0, h1⟩ := h
  obtain ⟨rfl, g0⟩ := h0
  have k1 := h1
  obtain ⟨a1, cap1, rfl, _⟩ := k1
  exact ⟨a1, cap1, rfl, h1, g0⟩
theorem cFct_open {B : Nat} {w : World} {x : Fct} {cs : List Value} (h : cFct.ok B w x cs) : ∃ a1 cap1, cs = [.int .i64 x.rel, .slice a1 x.vals.length cap1] ∧ cFct.ok B w x [.int .i64 x.rel, .slice a1 x.vals.length cap1] := by
  have h0 := h
  obtain ⟨a1, cap1, rfl, _⟩ := cFct_fields h
  exact ⟨a1, cap1, rfl, h0⟩
theorem cFct_inv {B : Nat} {w : World} {x : Fct} {v0 v1 : Value} (h : cFct.ok B w x [v0, v1]) : (cSlice cInt).ok B w x.vals [v1] ∧ inR x.rel := by
  obtain ⟨a1, cap1, e, h1, g0⟩ := cFct_fields h
  simp only [List.cons.injEq, and_true] at e
  obtain ⟨rfl, rfl⟩ := e
  exact ⟨h1, g0⟩
theorem cFct_mk {B : Nat} {w : World} {x : Fct} {v1 : Value} (h1 : (cSlice cInt).ok B w x.vals [v1]) (g0 : inR x.rel) : cFct.ok B w x [.int .i64 x.rel, v1] := ⟨[_], _, rfl, ⟨rfl, g0⟩, h1⟩
theorem cFct_own {lo hi lo1 hi1 : Nat} {w : World} {x : Fct} {v1 : Value} (h1 : OwnIn (cSlice cInt) lo1 hi1 w x.vals [v1]) (l1 : lo1 ≤ hi1) (g0 : inR x.rel) (q1 : lo ≤ lo1) (q : hi1 ≤ hi) : OwnIn cFct lo hi w x [.int .i64 x.rel, v1] := (OwnIn.pair (OwnIn.int lo lo _ g0) (h1.wide (lo' := lo) (hi' := hi) (by omega) (by omega)) (by omega) (by omega))
/-- Its size: its leaves behind slices. -/
def sizeFact (x : Fct) : Nat := x.vals.length
theorem szFact_c {a1 : Option Addr} {cap1 : Nat} {x : Fct} {left : Int} {w : World} (hl : 0 ≤ left) (hl2 : left ≤ 1048576) (h : At cFct w x [.int .i64 x.rel, .slice a1 x.vals.length cap1]) :
    Calls Try.prog 123 #[.agg #[.int .i64 x.rel, .slice a1 x.vals.length cap1], .int .i64 left] w fun e w' => e = .returned (.int .i64 (szR left (sizeFact x))) ∧ Below w.heap.size w w' := by
  obtain ⟨k1, _⟩ := cFct_inv h
  unfold sizeFact
  clear h
  obtain ⟨rel, vals⟩ := x
  simp only at *
  have H1 : Hid (∀ q : Int, 0 ≤ q → q ≤ 1048576 → ∀ ww, Below w.heap.size w ww → Calls Try.prog 63 #[.slice a1 vals.length cap1, .int .i64 q] ww fun e w' => e = .returned (.int .i64 (szR q (vals.length))) ∧ Below ww.heap.size ww w') :=
    fun q h0 h1 ww hb => szIntS_c h0 h1 (At.below (c := (cSlice cInt)) k1 hb (Nat.le_refl _))
  clear k1
  have G1 := Lib.hid (H1.out (left) (by omega) (by omega))
  have hn1 : szR (left) (vals.length) < 0 → szR (left) (vals.length) = -1 := szR_neg
  have hle1 := szR_le (left) (vals.length) (by omega)
  generalize szR (left) (vals.length) = z1 at *
  by_cases hz1 : z1 < 0
  · obtain rfl : z1 = -1 := hn1 hz1
    clear hn1
    go_enter Try.func123, Try.ntmps123
    go_wp2_with fail
    refine (G1.out _ ?hb).mono ?_
    case hb => go_grown
    rintro e w1 ⟨rfl, hb1⟩
    have hbb1 : Below w.heap.size w w1 := Below.trans (by go_grown) (hb1.mono (by simp; try omega))
    have hsz1 : w.heap.size + 1 ≤ w1.heap.size := by have := hb1.size; simp at this; omega
    have p1_0 : w1.cell? ⟨w.heap.size, 0, none⟩ = some (.int .i64 rel) := (hb1.cell (by simp)).trans (by go_simp)
    have p1_1 : w1.cell? ⟨w.heap.size, 1, none⟩ = some (.slice a1 vals.length cap1) := (hb1.cell (by simp)).trans (by go_simp)
    clear hb1
    go_wp2
    go_ret
    exact ⟨rfl, hbb1⟩
  · clear hn1
    go_enter Try.func123, Try.ntmps123
    go_wp2_with fail
    refine (G1.out _ ?hb).mono ?_
    case hb => go_grown
    rintro e w1 ⟨rfl, hb1⟩
    have hbb1 : Below w.heap.size w w1 := Below.trans (by go_grown) (hb1.mono (by simp; try omega))
    have hsz1 : w.heap.size + 1 ≤ w1.heap.size := by have := hb1.size; simp at this; omega
    have p1_0 : w1.cell? ⟨w.heap.size, 0, none⟩ = some (.int .i64 rel) := (hb1.cell (by simp)).trans (by go_simp)
    have p1_1 : w1.cell? ⟨w.heap.size, 1, none⟩ = some (.slice a1 vals.length cap1) := (hb1.cell (by simp)).trans (by go_simp)
    clear hb1
    go_wp2
    go_ret
    exact ⟨rfl, hbb1⟩
set_option maxHeartbeats 800000 in
theorem toFact_c {a1 : Option Addr} {cap1 : Nat} {x : Fct} {w : World} (hs : sizeFact x ≤ 1048576) (h : At cFct w x [.int .i64 x.rel, .slice a1 x.vals.length cap1]) :
    Calls Try.prog 126 #[.agg #[.int .i64 x.rel, .slice a1 x.vals.length cap1]] w fun e w' => (∃ a1' cap1', e = .returned (.agg #[.int .i64 x.rel, .slice a1' x.vals.length cap1']) ∧ Own cFct w.heap.size w' x [.int .i64 x.rel, .slice a1' x.vals.length cap1']) ∧ Below w.heap.size w w' := by
  unfold sizeFact at hs
  obtain ⟨k1, g0⟩ := cFct_inv h
  have G0 := Lib.hid g0
  clear g0
  clear h
  obtain ⟨rel, vals⟩ := x
  simp only at *
  have H1 : Hid (∀ ww, Below w.heap.size w ww → Calls Try.prog 29 #[.slice a1 vals.length cap1] ww fun e w' => (∃ a' cap', e = .returned (.slice a' vals.length cap') ∧ Own (cSlice cInt) ww.heap.size w' vals [.slice a' vals.length cap']) ∧ Below ww.heap.size ww w') :=
    fun ww hb => toIntS_c (by omega) (At.below (c := (cSlice cInt)) k1 hb (Nat.le_refl _))
  clear hs k1
  go_enter Try.func126, Try.ntmps126
  go_wp2_with fail
  refine (H1.out _ ?hb).mono ?_
  case hb => go_grown
  rintro e w1 ⟨⟨a1', cap1', rfl, ho1⟩, hb1⟩
  have hbb1 : Below w.heap.size w w1 := Below.trans (by go_grown) (hb1.mono (by simp; try omega))
  have hsz1 : w.heap.size + 3 ≤ w1.heap.size := by have := hb1.size; simp at this; omega
  have p1_0 : w1.cell? ⟨w.heap.size, 0, none⟩ = some (.int .i64 rel) := (hb1.cell (by simp; try omega)).trans (by go_simp)
  have o1_0 : w1.cell? ⟨w.heap.size + 1 + 1, 0, none⟩ = some (.int .i64 rel) := (hb1.cell (by simp; try omega)).trans (by go_simp)
  have f1_0 : w1.frozen? ⟨w.heap.size + 1 + 1, 0, none⟩ = false := (hb1.frozen (by simp; try omega)).trans (by go_simp)
  have e1_0 : w1.cell? ⟨w.heap.size + 1, 0, none⟩ = some (.int .i64 0) := (hb1.cell (by simp; try omega)).trans (by go_simp)
  have g1_0 : w1.frozen? ⟨w.heap.size + 1, 0, none⟩ = false := (hb1.frozen (by simp; try omega)).trans (by go_simp)
  have p1_1 : w1.cell? ⟨w.heap.size, 1, none⟩ = some (.slice a1 vals.length cap1) := (hb1.cell (by simp; try omega)).trans (by go_simp)
  have o1_1 : w1.cell? ⟨w.heap.size + 1 + 1, 1, none⟩ = some (.slice none 0 0) := (hb1.cell (by simp; try omega)).trans (by go_simp)
  have f1_1 : w1.frozen? ⟨w.heap.size + 1 + 1, 1, none⟩ = false := (hb1.frozen (by simp; try omega)).trans (by go_simp)
  have e1_1 : w1.cell? ⟨w.heap.size + 1, 1, none⟩ = some (.slice none 0 0) := (hb1.cell (by simp; try omega)).trans (by go_simp)
  have g1_1 : w1.frozen? ⟨w.heap.size + 1, 1, none⟩ = false := (hb1.frozen (by simp; try omega)).trans (by go_simp)
  have hR1 : w1.heap[w.heap.size + 1]? = some (.cells #[.int .i64 0, .slice none 0 0] 100 (0, 0)) := (hb1.block _ (by simp; try omega)).trans (by rw [Go.heap_alloc_old _ _ (by simp; try omega)]; exact heap_alloc2_new _ _ _)
  have u1 : OwnIn (cSlice cInt) (w.heap.size + 3) w1.heap.size w1 vals _ := OwnIn.wide ho1 (by simp; try omega) (Nat.le_refl _)
  clear hb1 ho1
  have U1 := Lib.hid u1
  clear u1
  go_wp2
  (try simp only [Exit.inBlock, Exit.then])
  refine bodyPost_ret (results_cell_row rfl _ _ (w.heap.size + 1) _ _ _ _ rfl (heap_setCell_same _ _ 1 _ _ _ (heap_setCell_same _ _ 0 _ _ _ ((heap_setCell_other _ _ _ _ (by simp)).trans (hR1)))) Try.underlying100 rfl (by kernel_rfl)) rfl ?_
  exact ⟨⟨_, _, rfl, OwnIn.own (cFct_own (x := ⟨rel, vals⟩) (lo := w.heap.size) (hi := w1.heap.size) ((((U1.out).setCell (by simp; try omega) _).setCell (by simp; try omega) _).setCell (by simp; try omega) _) (by omega) G0.out (by omega) (by omega)) (by simp [World.setCell])⟩, (((hbb1).setCell (by simp; try omega) _).setCell (by simp; try omega) _).setCell (by simp; try omega) _⟩
theorem eqFact_c {a1 : Option Addr} {cap1 : Nat} {a1' : Option Addr} {cap1' : Nat} {x y : Fct} {w : World} (h : At cFct w x [.int .i64 x.rel, .slice a1 x.vals.length cap1]) (h' : At cFct w y [.int .i64 y.rel, .slice a1' y.vals.length cap1']) :
    Calls Try.prog 130 #[.agg #[.int .i64 x.rel, .slice a1 x.vals.length cap1], .agg #[.int .i64 y.rel, .slice a1' y.vals.length cap1']] w fun e w' => e = .returned (.bool (decide (x = y))) ∧ Below w.heap.size w w' := by
  obtain ⟨k1, _⟩ := cFct_inv h
  obtain ⟨m1, _⟩ := cFct_inv h'
  clear h h'
  obtain ⟨rel, vals⟩ := x
  obtain ⟨rel', vals'⟩ := y
  have he : decide (Fct.mk rel vals = Fct.mk rel' vals') = (decide (rel = rel') && decide (vals = vals')) := by
    simp only [← Bool.decide_and]; congr 1; rw [Fct.mk.injEq]
  rw [he]
  clear he
  simp only at *
  have H1 : Hid (∀ ww, Below w.heap.size w ww → Calls Try.prog 31 #[.slice a1 vals.length cap1, .slice a1' vals'.length cap1'] ww fun e w' => e = .returned (.bool (decide (vals = vals'))) ∧ Below ww.heap.size ww w') :=
    fun ww hb => eqIntS_c (At.below (c := (cSlice cInt)) k1 hb (Nat.le_refl _)) (At.below (c := (cSlice cInt)) m1 hb (Nat.le_refl _))
  clear k1 m1
  by_cases hr0 : rel = rel'
  · subst hr0
    rw [decide_eq_true rfl, Bool.true_and]
    generalize decide (vals = vals') = z1 at *
    cases z1 with
    | true =>
      go_enter Try.func130, Try.ntmps130
      go_wp2_with fail
      refine (H1.out _ ?hb).mono ?_
      case hb => go_grown
      rintro e w1 ⟨rfl, hb1⟩
      have hbb1 : Below w.heap.size w w1 := Below.trans (by go_grown) (hb1.mono (by simp; try omega))
      have hsz1 : w.heap.size + 2 ≤ w1.heap.size := by have := hb1.size; simp at this; omega
      have p1_0 : w1.cell? ⟨w.heap.size, 0, none⟩ = some (.int .i64 rel) := (hb1.cell (by simp; try omega)).trans (by go_simp)
      have r1_0 : w1.cell? ⟨w.heap.size + 1, 0, none⟩ = some (.int .i64 rel) := (hb1.cell (by simp; try omega)).trans (by go_simp)
      have p1_1 : w1.cell? ⟨w.heap.size, 1, none⟩ = some (.slice a1 vals.length cap1) := (hb1.cell (by simp; try omega)).trans (by go_simp)
      have r1_1 : w1.cell? ⟨w.heap.size + 1, 1, none⟩ = some (.slice a1' vals'.length cap1') := (hb1.cell (by simp; try omega)).trans (by go_simp)
      clear hb1
      go_wp2
      go_ret
      exact ⟨by simp, hbb1⟩
    | false =>
      go_enter Try.func130, Try.ntmps130
      go_wp2_with fail
      refine (H1.out _ ?hb).mono ?_
      case hb => go_grown
      rintro e w1 ⟨rfl, hb1⟩
      have hbb1 : Below w.heap.size w w1 := Below.trans (by go_grown) (hb1.mono (by simp; try omega))
      have hsz1 : w.heap.size + 2 ≤ w1.heap.size := by have := hb1.size; simp at this; omega
      have p1_0 : w1.cell? ⟨w.heap.size, 0, none⟩ = some (.int .i64 rel) := (hb1.cell (by simp; try omega)).trans (by go_simp)
      have r1_0 : w1.cell? ⟨w.heap.size + 1, 0, none⟩ = some (.int .i64 rel) := (hb1.cell (by simp; try omega)).trans (by go_simp)
      have p1_1 : w1.cell? ⟨w.heap.size, 1, none⟩ = some (.slice a1 vals.length cap1) := (hb1.cell (by simp; try omega)).trans (by go_simp)
      have r1_1 : w1.cell? ⟨w.heap.size + 1, 1, none⟩ = some (.slice a1' vals'.length cap1') := (hb1.cell (by simp; try omega)).trans (by go_simp)
      clear hb1
      go_wp2
      go_ret
      exact ⟨by simp, hbb1⟩
  · have hn0 : (rel != rel') = true := by simp [hr0]
    rw [decide_eq_false hr0, Bool.false_and]
    go_enter Try.func130, Try.ntmps130
    go_wp2
    go_ret
    exact ⟨by simp, by go_grown⟩
end Go.Proofs.Ytmofmepbekffiaa

