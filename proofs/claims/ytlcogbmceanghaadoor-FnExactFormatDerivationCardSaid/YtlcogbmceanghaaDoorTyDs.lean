/- Structs: readings, the laws' helpers on them (size, copy, equality). -/
import Derived.Test.YtlcogbmceanghaaDoorTyTre
namespace Go.Proofs.YtlcogbmceanghaaDoor
open Go.RowKit
set_option linter.unusedVariables false
set_option maxRecDepth 100000

/-- A step of a derivation: facts, a block. -/
structure Dst where
  facts : List Int
  block : Int
deriving DecidableEq
def cDst : Cod Dst := cMap (fun x => (x.facts, x.block)) (cPair (cSlice cInt) cInt)
theorem cDst_fields {B : Nat} {w : World} {x : Dst} {cs : List Value} (h : cDst.ok B w x cs) : ∃ a0 cap0, cs = [.slice a0 x.facts.length cap0, .int .i64 x.block] ∧ (cSlice cInt).ok B w x.facts [.slice a0 x.facts.length cap0] ∧ inR x.block := by
  obtain ⟨_, _, rfl, h0, h1⟩ := h
  have k0 := h0
  obtain ⟨a0, cap0, rfl, _⟩ := k0
  obtain ⟨rfl, g1⟩ := h1
  exact ⟨a0, cap0, rfl, h0, g1⟩
theorem cDst_open {B : Nat} {w : World} {x : Dst} {cs : List Value} (h : cDst.ok B w x cs) : ∃ a0 cap0, cs = [.slice a0 x.facts.length cap0, .int .i64 x.block] ∧ cDst.ok B w x [.slice a0 x.facts.length cap0, .int .i64 x.block] := by
  have h0 := h
  obtain ⟨a0, cap0, rfl, _⟩ := cDst_fields h
  exact ⟨a0, cap0, rfl, h0⟩
theorem cDst_inv {B : Nat} {w : World} {x : Dst} {v0 v1 : Value} (h : cDst.ok B w x [v0, v1]) : (cSlice cInt).ok B w x.facts [v0] ∧ inR x.block := by
  obtain ⟨a0, cap0, e, h0, g1⟩ := cDst_fields h
  simp only [List.cons.injEq, and_true] at e
  obtain ⟨rfl, rfl⟩ := e
  exact ⟨h0, g1⟩
theorem cDst_mk {B : Nat} {w : World} {x : Dst} {v0 : Value} (h0 : (cSlice cInt).ok B w x.facts [v0]) (g1 : inR x.block) : cDst.ok B w x [v0, .int .i64 x.block] := ⟨[_], _, rfl, h0, ⟨rfl, g1⟩⟩
theorem cDst_own {lo hi lo0 hi0 : Nat} {w : World} {x : Dst} {v0 : Value} (h0 : OwnIn (cSlice cInt) lo0 hi0 w x.facts [v0]) (l0 : lo0 ≤ hi0) (g1 : inR x.block) (q0 : lo ≤ lo0) (q : hi0 ≤ hi) : OwnIn cDst lo hi w x [v0, .int .i64 x.block] := (OwnIn.pair (h0.wide (lo' := lo) (hi' := hi0) (by omega) (by omega)) (OwnIn.int hi0 hi _ g1) (by omega) (by omega))
/-- Its size: its leaves behind slices. -/
def sizeDerivationStep (x : Dst) : Nat := x.facts.length
theorem szDerivationStep_c {a0 : Option Addr} {cap0 : Nat} {x : Dst} {left : Int} {w : World} (hl : 0 ≤ left) (hl2 : left ≤ 1048576) (h : At cDst w x [.slice a0 x.facts.length cap0, .int .i64 x.block]) :
    Calls Tryd.prog 76 #[.agg #[.slice a0 x.facts.length cap0, .int .i64 x.block], .int .i64 left] w fun e w' => e = .returned (.int .i64 (szR left (sizeDerivationStep x))) ∧ Below w.heap.size w w' := by
  obtain ⟨k0, _⟩ := cDst_inv h
  unfold sizeDerivationStep
  clear h
  obtain ⟨facts, block⟩ := x
  simp only at *
  have H0 : Hid (∀ q : Int, 0 ≤ q → q ≤ 1048576 → ∀ ww, Below w.heap.size w ww → Calls Tryd.prog 45 #[.slice a0 facts.length cap0, .int .i64 q] ww fun e w' => e = .returned (.int .i64 (szR q (facts.length))) ∧ Below ww.heap.size ww w') :=
    fun q h0 h1 ww hb => szIntS_c h0 h1 (At.below (c := (cSlice cInt)) k0 hb (Nat.le_refl _))
  clear k0
  have G0 := Lib.hid (H0.out (left) (by omega) (by omega))
  have hn0 : szR (left) (facts.length) < 0 → szR (left) (facts.length) = -1 := szR_neg
  have hle0 := szR_le (left) (facts.length) (by omega)
  generalize szR (left) (facts.length) = z0 at *
  by_cases hz0 : z0 < 0
  · obtain rfl : z0 = -1 := hn0 hz0
    clear hn0
    go_enter Tryd.func76, Tryd.ntmps76
    go_wp2_with fail
    refine (G0.out _ ?hb).mono ?_
    case hb => go_grown
    rintro e w1 ⟨rfl, hb1⟩
    have hbb1 : Below w.heap.size w w1 := Below.trans (by go_grown) (hb1.mono (by simp; try omega))
    have hsz1 : w.heap.size + 1 ≤ w1.heap.size := by have := hb1.size; simp at this; omega
    have p1_0 : w1.cell? ⟨w.heap.size, 0, none⟩ = some (.slice a0 facts.length cap0) := (hb1.cell (by simp)).trans (by go_simp)
    have p1_1 : w1.cell? ⟨w.heap.size, 1, none⟩ = some (.int .i64 block) := (hb1.cell (by simp)).trans (by go_simp)
    clear hb1
    go_wp2
    go_ret
    exact ⟨rfl, hbb1⟩
  · clear hn0
    go_enter Tryd.func76, Tryd.ntmps76
    go_wp2_with fail
    refine (G0.out _ ?hb).mono ?_
    case hb => go_grown
    rintro e w1 ⟨rfl, hb1⟩
    have hbb1 : Below w.heap.size w w1 := Below.trans (by go_grown) (hb1.mono (by simp; try omega))
    have hsz1 : w.heap.size + 1 ≤ w1.heap.size := by have := hb1.size; simp at this; omega
    have p1_0 : w1.cell? ⟨w.heap.size, 0, none⟩ = some (.slice a0 facts.length cap0) := (hb1.cell (by simp)).trans (by go_simp)
    have p1_1 : w1.cell? ⟨w.heap.size, 1, none⟩ = some (.int .i64 block) := (hb1.cell (by simp)).trans (by go_simp)
    clear hb1
    go_wp2
    go_ret
    exact ⟨rfl, hbb1⟩
set_option maxHeartbeats 800000 in
theorem toDerivationStep_c {a0 : Option Addr} {cap0 : Nat} {x : Dst} {w : World} (hs : sizeDerivationStep x ≤ 1048576) (h : At cDst w x [.slice a0 x.facts.length cap0, .int .i64 x.block]) :
    Calls Tryd.prog 79 #[.agg #[.slice a0 x.facts.length cap0, .int .i64 x.block]] w fun e w' => (∃ a0' cap0', e = .returned (.agg #[.slice a0' x.facts.length cap0', .int .i64 x.block]) ∧ Own cDst w.heap.size w' x [.slice a0' x.facts.length cap0', .int .i64 x.block]) ∧ Below w.heap.size w w' := by
  unfold sizeDerivationStep at hs
  obtain ⟨k0, g1⟩ := cDst_inv h
  have G1 := Lib.hid g1
  clear g1
  clear h
  obtain ⟨facts, block⟩ := x
  simp only at *
  have H0 : Hid (∀ ww, Below w.heap.size w ww → Calls Tryd.prog 51 #[.slice a0 facts.length cap0] ww fun e w' => (∃ a' cap', e = .returned (.slice a' facts.length cap') ∧ Own (cSlice cInt) ww.heap.size w' facts [.slice a' facts.length cap']) ∧ Below ww.heap.size ww w') :=
    fun ww hb => toIntS_c (by omega) (At.below (c := (cSlice cInt)) k0 hb (Nat.le_refl _))
  clear hs k0
  go_enter Tryd.func79, Tryd.ntmps79
  go_wp2_with fail
  refine (H0.out _ ?hb).mono ?_
  case hb => go_grown
  rintro e w1 ⟨⟨a0', cap0', rfl, ho0⟩, hb1⟩
  have hbb1 : Below w.heap.size w w1 := Below.trans (by go_grown) (hb1.mono (by simp; try omega))
  have hsz1 : w.heap.size + 3 ≤ w1.heap.size := by have := hb1.size; simp at this; omega
  have p1_0 : w1.cell? ⟨w.heap.size, 0, none⟩ = some (.slice a0 facts.length cap0) := (hb1.cell (by simp; try omega)).trans (by go_simp)
  have o1_0 : w1.cell? ⟨w.heap.size + 1 + 1, 0, none⟩ = some (.slice none 0 0) := (hb1.cell (by simp; try omega)).trans (by go_simp)
  have f1_0 : w1.frozen? ⟨w.heap.size + 1 + 1, 0, none⟩ = false := (hb1.frozen (by simp; try omega)).trans (by go_simp)
  have e1_0 : w1.cell? ⟨w.heap.size + 1, 0, none⟩ = some (.slice none 0 0) := (hb1.cell (by simp; try omega)).trans (by go_simp)
  have g1_0 : w1.frozen? ⟨w.heap.size + 1, 0, none⟩ = false := (hb1.frozen (by simp; try omega)).trans (by go_simp)
  have p1_1 : w1.cell? ⟨w.heap.size, 1, none⟩ = some (.int .i64 block) := (hb1.cell (by simp; try omega)).trans (by go_simp)
  have o1_1 : w1.cell? ⟨w.heap.size + 1 + 1, 1, none⟩ = some (.int .i64 0) := (hb1.cell (by simp; try omega)).trans (by go_simp)
  have f1_1 : w1.frozen? ⟨w.heap.size + 1 + 1, 1, none⟩ = false := (hb1.frozen (by simp; try omega)).trans (by go_simp)
  have e1_1 : w1.cell? ⟨w.heap.size + 1, 1, none⟩ = some (.int .i64 0) := (hb1.cell (by simp; try omega)).trans (by go_simp)
  have g1_1 : w1.frozen? ⟨w.heap.size + 1, 1, none⟩ = false := (hb1.frozen (by simp; try omega)).trans (by go_simp)
  have hR1 : w1.heap[w.heap.size + 1]? = some (.cells #[.slice none 0 0, .int .i64 0] 127 (0, 0)) := (hb1.block _ (by simp; try omega)).trans (by rw [Go.heap_alloc_old _ _ (by simp; try omega)]; exact heap_alloc2_new _ _ _)
  have u0 : OwnIn (cSlice cInt) (w.heap.size + 3) w1.heap.size w1 facts _ := OwnIn.wide ho0 (by simp; try omega) (Nat.le_refl _)
  clear hb1 ho0
  have U0 := Lib.hid u0
  clear u0
  go_wp2
  (try simp only [Exit.inBlock, Exit.then])
  refine bodyPost_ret (results_cell_row rfl _ _ (w.heap.size + 1) _ _ _ _ rfl (heap_setCell_same _ _ 1 _ _ _ (heap_setCell_same _ _ 0 _ _ _ ((heap_setCell_other _ _ _ _ (by simp)).trans ((heap_setCell_other _ _ _ _ (by simp)).trans (hR1))))) Tryd.underlying127 rfl (by kernel_rfl)) rfl ?_
  exact ⟨⟨_, _, rfl, OwnIn.own (cDst_own (x := ⟨facts, block⟩) (lo := w.heap.size) (hi := w1.heap.size) (((((U0.out).setCell (by simp; try omega) _).setCell (by simp; try omega) _).setCell (by simp; try omega) _).setCell (by simp; try omega) _) (by omega) G1.out (by omega) (by omega)) (by simp [World.setCell])⟩, ((((hbb1).setCell (by simp; try omega) _).setCell (by simp; try omega) _).setCell (by simp; try omega) _).setCell (by simp; try omega) _⟩
theorem eqDerivationStep_c {a0 : Option Addr} {cap0 : Nat} {a0' : Option Addr} {cap0' : Nat} {x y : Dst} {w : World} (h : At cDst w x [.slice a0 x.facts.length cap0, .int .i64 x.block]) (h' : At cDst w y [.slice a0' y.facts.length cap0', .int .i64 y.block]) :
    Calls Tryd.prog 84 #[.agg #[.slice a0 x.facts.length cap0, .int .i64 x.block], .agg #[.slice a0' y.facts.length cap0', .int .i64 y.block]] w fun e w' => e = .returned (.bool (decide (x = y))) ∧ Below w.heap.size w w' := by
  obtain ⟨k0, _⟩ := cDst_inv h
  obtain ⟨m0, _⟩ := cDst_inv h'
  clear h h'
  obtain ⟨facts, block⟩ := x
  obtain ⟨facts', block'⟩ := y
  have he : decide (Dst.mk facts block = Dst.mk facts' block') = (decide (facts = facts') && decide (block = block')) := by
    simp only [← Bool.decide_and]; congr 1; rw [Dst.mk.injEq]
  rw [he]
  clear he
  simp only at *
  have H0 : Hid (∀ ww, Below w.heap.size w ww → Calls Tryd.prog 58 #[.slice a0 facts.length cap0, .slice a0' facts'.length cap0'] ww fun e w' => e = .returned (.bool (decide (facts = facts'))) ∧ Below ww.heap.size ww w') :=
    fun ww hb => eqIntS_c (At.below (c := (cSlice cInt)) k0 hb (Nat.le_refl _)) (At.below (c := (cSlice cInt)) m0 hb (Nat.le_refl _))
  clear k0 m0
  generalize decide (facts = facts') = z0 at *
  cases z0 with
  | true =>
    rw [Bool.true_and]
    by_cases hr1 : block = block'
    · subst hr1
      rw [decide_eq_true rfl]
      go_enter Tryd.func84, Tryd.ntmps84
      go_wp2_with fail
      refine (H0.out _ ?hb).mono ?_
      case hb => go_grown
      rintro e w1 ⟨rfl, hb1⟩
      have hbb1 : Below w.heap.size w w1 := Below.trans (by go_grown) (hb1.mono (by simp; try omega))
      have hsz1 : w.heap.size + 2 ≤ w1.heap.size := by have := hb1.size; simp at this; omega
      have p1_0 : w1.cell? ⟨w.heap.size, 0, none⟩ = some (.slice a0 facts.length cap0) := (hb1.cell (by simp; try omega)).trans (by go_simp)
      have r1_0 : w1.cell? ⟨w.heap.size + 1, 0, none⟩ = some (.slice a0' facts'.length cap0') := (hb1.cell (by simp; try omega)).trans (by go_simp)
      have p1_1 : w1.cell? ⟨w.heap.size, 1, none⟩ = some (.int .i64 block) := (hb1.cell (by simp; try omega)).trans (by go_simp)
      have r1_1 : w1.cell? ⟨w.heap.size + 1, 1, none⟩ = some (.int .i64 block) := (hb1.cell (by simp; try omega)).trans (by go_simp)
      clear hb1
      go_wp2
      go_ret
      exact ⟨by simp, hbb1⟩
    · have hn1 : (block != block') = true := by simp [hr1]
      rw [decide_eq_false hr1]
      go_enter Tryd.func84, Tryd.ntmps84
      go_wp2_with fail
      refine (H0.out _ ?hb).mono ?_
      case hb => go_grown
      rintro e w1 ⟨rfl, hb1⟩
      have hbb1 : Below w.heap.size w w1 := Below.trans (by go_grown) (hb1.mono (by simp; try omega))
      have hsz1 : w.heap.size + 2 ≤ w1.heap.size := by have := hb1.size; simp at this; omega
      have p1_0 : w1.cell? ⟨w.heap.size, 0, none⟩ = some (.slice a0 facts.length cap0) := (hb1.cell (by simp; try omega)).trans (by go_simp)
      have r1_0 : w1.cell? ⟨w.heap.size + 1, 0, none⟩ = some (.slice a0' facts'.length cap0') := (hb1.cell (by simp; try omega)).trans (by go_simp)
      have p1_1 : w1.cell? ⟨w.heap.size, 1, none⟩ = some (.int .i64 block) := (hb1.cell (by simp; try omega)).trans (by go_simp)
      have r1_1 : w1.cell? ⟨w.heap.size + 1, 1, none⟩ = some (.int .i64 block') := (hb1.cell (by simp; try omega)).trans (by go_simp)
      clear hb1
      go_wp2
      go_ret
      exact ⟨by simp, hbb1⟩
  | false =>
    rw [Bool.false_and]
    go_enter Tryd.func84, Tryd.ntmps84
    go_wp2_with fail
    refine (H0.out _ ?hb).mono ?_
    case hb => go_grown
    rintro e w1 ⟨rfl, hb1⟩
    have hbb1 : Below w.heap.size w w1 := Below.trans (by go_grown) (hb1.mono (by simp; try omega))
    have hsz1 : w.heap.size + 2 ≤ w1.heap.size := by have := hb1.size; simp at this; omega
    have p1_0 : w1.cell? ⟨w.heap.size, 0, none⟩ = some (.slice a0 facts.length cap0) := (hb1.cell (by simp; try omega)).trans (by go_simp)
    have r1_0 : w1.cell? ⟨w.heap.size + 1, 0, none⟩ = some (.slice a0' facts'.length cap0') := (hb1.cell (by simp; try omega)).trans (by go_simp)
    have p1_1 : w1.cell? ⟨w.heap.size, 1, none⟩ = some (.int .i64 block) := (hb1.cell (by simp; try omega)).trans (by go_simp)
    have r1_1 : w1.cell? ⟨w.heap.size + 1, 1, none⟩ = some (.int .i64 block') := (hb1.cell (by simp; try omega)).trans (by go_simp)
    clear hb1
    go_wp2
    go_ret
    exact ⟨by simp, hbb1⟩
end Go.Proofs.YtlcogbmceanghaaDoor

