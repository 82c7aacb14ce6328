/- Structs that hold structs: readings, the laws' helpers on them (size, copy, equality). -/
import Derived.Test.YtlcogbmceanghaaDoorTyTre
namespace Go.Proofs.YtlcogbmceanghaaDoor
open Go.RowKit
set_option linter.unusedVariables false
set_option maxRecDepth 100000

/-- An edit: its kind, a fact. -/
structure Edt where
  kind : Int
  fact : Fct
deriving DecidableEq
def cEdt : Cod Edt := cMap (fun x => (x.kind, x.fact)) (cPair cInt cFct)
theorem cEdt_fields {B : Nat} {w : World} {x : Edt} {cs : List Value} (h : cEdt.ok B w x cs) : ∃ a2 cap2, cs = [.int .i64 x.kind, .int .i64 x.fact.rel, .slice a2 x.fact.vals.length cap2] ∧ cFct.ok B w x.fact [.int .i64 x.fact.rel, .slice a2 x.fact.vals.length cap2] ∧ inR x.kind := by
  obtain ⟨_, _, rfl, h0, h1⟩ := h
  obtain ⟨rfl, g0⟩ := h0
  obtain ⟨a2, cap2, rfl, k1⟩ := cFct_open h1
  exact ⟨a2, cap2, rfl, k1, g0⟩
theorem cEdt_open {B : Nat} {w : World} {x : Edt} {cs : List Value} (h : cEdt.ok B w x cs) : ∃ a2 cap2, cs = [.int .i64 x.kind, .int .i64 x.fact.rel, .slice a2 x.fact.vals.length cap2] ∧ cEdt.ok B w x [.int .i64 x.kind, .int .i64 x.fact.rel, .slice a2 x.fact.vals.length cap2] := by
  have h0 := h
  obtain ⟨a2, cap2, rfl, _⟩ := cEdt_fields h
  exact ⟨a2, cap2, rfl, h0⟩
theorem cEdt_inv {B : Nat} {w : World} {x : Edt} {v0 v1 v2 : Value} (h : cEdt.ok B w x [v0, v1, v2]) : cFct.ok B w x.fact [v1, v2] ∧ inR x.kind := by
  obtain ⟨a2, cap2, e, h0, g0⟩ := cEdt_fields h
  simp only [List.cons.injEq, and_true] at e
  obtain ⟨rfl, rfl, rfl⟩ := e
  exact ⟨h0, g0⟩
theorem cEdt_own {lo hi lo0 hi0 : Nat} {w : World} {x : Edt} {v1 v2 : Value} (h0 : OwnIn cFct lo0 hi0 w x.fact [v1, v2]) (l0 : lo0 ≤ hi0) (g0 : inR x.kind) (q0 : lo ≤ lo0) (q : hi0 ≤ hi) : OwnIn cEdt lo hi w x [.int .i64 x.kind, v1, v2] := (OwnIn.pair (OwnIn.int lo lo _ g0) (h0.wide (lo' := lo) (hi' := hi) (by omega) (by omega)) (by omega) (by omega))
/-- Its size: its leaves behind slices. -/
def sizeEdit (x : Edt) : Nat := sizeFact x.fact
theorem szEdit_c {a2 : Option Addr} {cap2 : Nat} {x : Edt} {left : Int} {w : World} (hl : 0 ≤ left) (hl2 : left ≤ 1048576) (h : At cEdt w x [.int .i64 x.kind, .int .i64 x.fact.rel, .slice a2 x.fact.vals.length cap2]) :
    Calls Tryd.prog 23 #[.agg #[.int .i64 x.kind, .int .i64 x.fact.rel, .slice a2 x.fact.vals.length cap2], .int .i64 left] w fun e w' => e = .returned (.int .i64 (szR left (sizeEdit x))) ∧ Below w.heap.size w w' := by
  obtain ⟨k0, _⟩ := cEdt_inv h
  unfold sizeEdit
  clear h
  obtain ⟨kind, ⟨rel, vals⟩⟩ := x
  simp only at *
  have H0 : Hid (∀ q : Int, 0 ≤ q → q ≤ 1048576 → ∀ ww, Below w.heap.size w ww → Calls Tryd.prog 65 #[.agg #[.int .i64 rel, .slice a2 vals.length cap2], .int .i64 q] ww fun e w' => e = .returned (.int .i64 (szR q (sizeFact (Fct.mk rel vals)))) ∧ Below ww.heap.size ww w') :=
    fun q h0 h1 ww hb => szFact_c h0 h1 (At.below (c := cFct) k0 hb (Nat.le_refl _))
  clear k0
  generalize sizeFact (Fct.mk rel vals) = Z0 at *
  have G0 := Lib.hid (H0.out (left) (by omega) (by omega))
  have hn0 : szR (left) (Z0) < 0 → szR (left) (Z0) = -1 := szR_neg
  have hle0 := szR_le (left) (Z0) (by omega)
  generalize szR (left) (Z0) = z0 at *
  by_cases hz0 : z0 < 0
  · obtain rfl : z0 = -1 := hn0 hz0
    clear hn0
    go_enter Tryd.func23, Tryd.ntmps23
    go_wp2_with fail
    refine (G0.out _ ?hb).mono ?_
    case hb => go_grown
    rintro e w1 ⟨rfl, hb1⟩
    have hbb1 : Below w.heap.size w w1 := Below.trans (by go_grown) (hb1.mono (by simp; try omega))
    have hsz1 : w.heap.size + 1 ≤ w1.heap.size := by have := hb1.size; simp at this; omega
    have p1_0 : w1.cell? ⟨w.heap.size, 0, none⟩ = some (.int .i64 kind) := (hb1.cell (by simp)).trans (by go_simp)
    have p1_1 : w1.cell? ⟨w.heap.size, 1, none⟩ = some (.int .i64 rel) := (hb1.cell (by simp)).trans (by go_simp)
    have p1_2 : w1.cell? ⟨w.heap.size, 2, none⟩ = some (.slice a2 vals.length cap2) := (hb1.cell (by simp)).trans (by go_simp)
    clear hb1
    go_wp2
    go_ret
    exact ⟨rfl, hbb1⟩
  · clear hn0
    go_enter Tryd.func23, Tryd.ntmps23
    go_wp2_with fail
    refine (G0.out _ ?hb).mono ?_
    case hb => go_grown
    rintro e w1 ⟨rfl, hb1⟩
    have hbb1 : Below w.heap.size w w1 := Below.trans (by go_grown) (hb1.mono (by simp; try omega))
    have hsz1 : w.heap.size + 1 ≤ w1.heap.size := by have := hb1.size; simp at this; omega
    have p1_0 : w1.cell? ⟨w.heap.size, 0, none⟩ = some (.int .i64 kind) := (hb1.cell (by simp)).trans (by go_simp)
    have p1_1 : w1.cell? ⟨w.heap.size, 1, none⟩ = some (.int .i64 rel) := (hb1.cell (by simp)).trans (by go_simp)
    have p1_2 : w1.cell? ⟨w.heap.size, 2, none⟩ = some (.slice a2 vals.length cap2) := (hb1.cell (by simp)).trans (by go_simp)
    clear hb1
    go_wp2
    go_ret
    exact ⟨rfl, hbb1⟩
set_option maxHeartbeats 1600000 in
theorem toEdit_c {a2 : Option Addr} {cap2 : Nat} {x : Edt} {w : World} (hs : sizeEdit x ≤ 1048576) (h : At cEdt w x [.int .i64 x.kind, .int .i64 x.fact.rel, .slice a2 x.fact.vals.length cap2]) :
    Calls Tryd.prog 26 #[.agg #[.int .i64 x.kind, .int .i64 x.fact.rel, .slice a2 x.fact.vals.length cap2]] w fun e w' => (∃ a2' cap2', e = .returned (.agg #[.int .i64 x.kind, .int .i64 x.fact.rel, .slice a2' x.fact.vals.length cap2']) ∧ Own cEdt w.heap.size w' x [.int .i64 x.kind, .int .i64 x.fact.rel, .slice a2' x.fact.vals.length cap2']) ∧ Below w.heap.size w w' := by
  unfold sizeEdit at hs
  obtain ⟨k0, g0⟩ := cEdt_inv h
  have G0 := Lib.hid g0
  clear g0
  clear h
  obtain ⟨kind, ⟨rel, vals⟩⟩ := x
  simp only at *
  have H0 : Hid (∀ ww, Below w.heap.size w ww → Calls Tryd.prog 69 #[.agg #[.int .i64 rel, .slice a2 vals.length cap2]] ww fun e w' => (∃ a2' cap2', e = .returned (.agg #[.int .i64 rel, .slice a2' vals.length cap2']) ∧ Own cFct ww.heap.size w' (Fct.mk rel vals) [.int .i64 rel, .slice a2' vals.length cap2']) ∧ Below ww.heap.size ww w') :=
    fun ww hb => toFact_c (by omega) (At.below (c := cFct) k0 hb (Nat.le_refl _))
  clear hs k0
  go_enter Tryd.func26, Tryd.ntmps26
  go_wp2_with fail
  refine (H0.out _ ?hb).mono ?_
  case hb => go_grown
  rintro e w1 ⟨⟨a2', cap2', rfl, ho0⟩, hb1⟩
  have hbb1 : Below w.heap.size w w1 := Below.trans (by go_grown) (hb1.mono (by simp; try omega))
  have hsz1 : w.heap.size + 3 ≤ w1.heap.size := by have := hb1.size; simp at this; omega
  have p1_0 : w1.cell? ⟨w.heap.size, 0, none⟩ = some (.int .i64 kind) := (hb1.cell (by simp; try omega)).trans (by go_simp)
  have o1_0 : w1.cell? ⟨w.heap.size + 1 + 1, 0, none⟩ = some (.int .i64 kind) := (hb1.cell (by simp; try omega)).trans (by go_simp)
  have f1_0 : w1.frozen? ⟨w.heap.size + 1 + 1, 0, none⟩ = false := (hb1.frozen (by simp; try omega)).trans (by go_simp)
  have e1_0 : w1.cell? ⟨w.heap.size + 1, 0, none⟩ = some (.int .i64 0) := (hb1.cell (by simp; try omega)).trans (by go_simp)
  have g1_0 : w1.frozen? ⟨w.heap.size + 1, 0, none⟩ = false := (hb1.frozen (by simp; try omega)).trans (by go_simp)
  have p1_1 : w1.cell? ⟨w.heap.size, 1, none⟩ = some (.int .i64 rel) := (hb1.cell (by simp; try omega)).trans (by go_simp)
  have o1_1 : w1.cell? ⟨w.heap.size + 1 + 1, 1, none⟩ = some (.int .i64 0) := (hb1.cell (by simp; try omega)).trans (by go_simp)
  have f1_1 : w1.frozen? ⟨w.heap.size + 1 + 1, 1, none⟩ = false := (hb1.frozen (by simp; try omega)).trans (by go_simp)
  have e1_1 : w1.cell? ⟨w.heap.size + 1, 1, none⟩ = some (.int .i64 0) := (hb1.cell (by simp; try omega)).trans (by go_simp)
  have g1_1 : w1.frozen? ⟨w.heap.size + 1, 1, none⟩ = false := (hb1.frozen (by simp; try omega)).trans (by go_simp)
  have p1_2 : w1.cell? ⟨w.heap.size, 2, none⟩ = some (.slice a2 vals.length cap2) := (hb1.cell (by simp; try omega)).trans (by go_simp)
  have o1_2 : w1.cell? ⟨w.heap.size + 1 + 1, 2, none⟩ = some (.slice none 0 0) := (hb1.cell (by simp; try omega)).trans (by go_simp)
  have f1_2 : w1.frozen? ⟨w.heap.size + 1 + 1, 2, none⟩ = false := (hb1.frozen (by simp; try omega)).trans (by go_simp)
  have e1_2 : w1.cell? ⟨w.heap.size + 1, 2, none⟩ = some (.slice none 0 0) := (hb1.cell (by simp; try omega)).trans (by go_simp)
  have g1_2 : w1.frozen? ⟨w.heap.size + 1, 2, none⟩ = false := (hb1.frozen (by simp; try omega)).trans (by go_simp)
  have hR1 : w1.heap[w.heap.size + 1]? = some (.cells #[.int .i64 0, .int .i64 0, .slice none 0 0] 62 (0, 0)) := (hb1.block _ (by simp; try omega)).trans (by rw [Go.heap_alloc_old _ _ (by simp; try omega)]; exact heap_alloc2_new _ _ _)
  have u0 : OwnIn cFct (w.heap.size + 3) w1.heap.size w1 (Fct.mk rel vals) _ := OwnIn.wide ho0 (by simp; try omega) (Nat.le_refl _)
  clear hb1 ho0
  have U0 := Lib.hid u0
  clear u0
  go_wp2
  (try simp only [Exit.inBlock, Exit.then])
  refine bodyPost_ret (results_cell_row rfl _ _ (w.heap.size + 1) _ _ _ _ rfl (heap_setCell_same _ _ 2 _ _ _ (heap_setCell_same _ _ 1 _ _ _ (heap_setCell_same _ _ 0 _ _ _ ((heap_setCell_other _ _ _ _ (by simp)).trans ((heap_setCell_other _ _ _ _ (by simp)).trans (hR1)))))) Tryd.underlying62 rfl (by kernel_rfl)) rfl ?_
  exact ⟨⟨_, _, rfl, OwnIn.own (cEdt_own (x := ⟨kind, ⟨rel, vals⟩⟩) (lo := w.heap.size) (hi := w1.heap.size) ((((((U0.out).setCell (by simp; try omega) _).setCell (by simp; try omega) _).setCell (by simp; try omega) _).setCell (by simp; try omega) _).setCell (by simp; try omega) _) (by omega) G0.out (by omega) (by omega)) (by simp [World.setCell])⟩, (((((hbb1).setCell (by simp; try omega) _).setCell (by simp; try omega) _).setCell (by simp; try omega) _).setCell (by simp; try omega) _).setCell (by simp; try omega) _⟩
theorem eqEdit_c {a2 : Option Addr} {cap2 : Nat} {a2' : Option Addr} {cap2' : Nat} {x y : Edt} {w : World} (h : At cEdt w x [.int .i64 x.kind, .int .i64 x.fact.rel, .slice a2 x.fact.vals.length cap2]) (h' : At cEdt w y [.int .i64 y.kind, .int .i64 y.fact.rel, .slice a2' y.fact.vals.length cap2']) :
    Calls Tryd.prog 29 #[.agg #[.int .i64 x.kind, .int .i64 x.fact.rel, .slice a2 x.fact.vals.length cap2], .agg #[.int .i64 y.kind, .int .i64 y.fact.rel, .slice a2' y.fact.vals.length cap2']] w fun e w' => e = .returned (.bool (decide (x = y))) ∧ Below w.heap.size w w' := by
  obtain ⟨k0, _⟩ := cEdt_inv h
  obtain ⟨m0, _⟩ := cEdt_inv h'
  clear h h'
  obtain ⟨kind, ⟨rel, vals⟩⟩ := x
  obtain ⟨kind', ⟨rel', vals'⟩⟩ := y
  have he : decide (Edt.mk kind (Fct.mk rel vals) = Edt.mk kind' (Fct.mk rel' vals')) = (decide (kind = kind') && decide ((Fct.mk rel vals) = (Fct.mk rel' vals'))) := by
    simp only [← Bool.decide_and]; congr 1; rw [Edt.mk.injEq]
  rw [he]
  clear he
  simp only at *
  have H0 : Hid (∀ ww, Below w.heap.size w ww → Calls Tryd.prog 72 #[.agg #[.int .i64 rel, .slice a2 vals.length cap2], .agg #[.int .i64 rel', .slice a2' vals'.length cap2']] ww fun e w' => e = .returned (.bool (decide ((Fct.mk rel vals) = (Fct.mk rel' vals')))) ∧ Below ww.heap.size ww w') :=
    fun ww hb => eqFact_c (At.below (c := cFct) k0 hb (Nat.le_refl _)) (At.below (c := cFct) m0 hb (Nat.le_refl _))
  clear k0 m0
  by_cases hr0 : kind = kind'
  · subst hr0
    rw [decide_eq_true rfl, Bool.true_and]
    generalize decide ((Fct.mk rel vals) = (Fct.mk rel' vals')) = z1 at *
    cases z1 with
    | true =>
      go_enter Tryd.func29, Tryd.ntmps29
      go_wp2_with fail
      refine (H0.out _ ?hb).mono ?_
      case hb => go_grown
      rintro e w1 ⟨rfl, hb1⟩
      have hbb1 : Below w.heap.size w w1 := Below.trans (by go_grown) (hb1.mono (by simp; try omega))
      have hsz1 : w.heap.size + 2 ≤ w1.heap.size := by have := hb1.size; simp at this; omega
      have p1_0 : w1.cell? ⟨w.heap.size, 0, none⟩ = some (.int .i64 kind) := (hb1.cell (by simp; try omega)).trans (by go_simp)
      have r1_0 : w1.cell? ⟨w.heap.size + 1, 0, none⟩ = some (.int .i64 kind) := (hb1.cell (by simp; try omega)).trans (by go_simp)
      have p1_1 : w1.cell? ⟨w.heap.size, 1, none⟩ = some (.int .i64 rel) := (hb1.cell (by simp; try omega)).trans (by go_simp)
      have r1_1 : w1.cell? ⟨w.heap.size + 1, 1, none⟩ = some (.int .i64 rel') := (hb1.cell (by simp; try omega)).trans (by go_simp)
      have p1_2 : w1.cell? ⟨w.heap.size, 2, none⟩ = some (.slice a2 vals.length cap2) := (hb1.cell (by simp; try omega)).trans (by go_simp)
      have r1_2 : w1.cell? ⟨w.heap.size + 1, 2, none⟩ = some (.slice a2' vals'.length cap2') := (hb1.cell (by simp; try omega)).trans (by go_simp)
      clear hb1
      go_wp2
      go_ret
      exact ⟨by simp, hbb1⟩
    | false =>
      go_enter Tryd.func29, Tryd.ntmps29
      go_wp2_with fail
      refine (H0.out _ ?hb).mono ?_
      case hb => go_grown
      rintro e w1 ⟨rfl, hb1⟩
      have hbb1 : Below w.heap.size w w1 := Below.trans (by go_grown) (hb1.mono (by simp; try omega))
      have hsz1 : w.heap.size + 2 ≤ w1.heap.size := by have := hb1.size; simp at this; omega
      have p1_0 : w1.cell? ⟨w.heap.size, 0, none⟩ = some (.int .i64 kind) := (hb1.cell (by simp; try omega)).trans (by go_simp)
      have r1_0 : w1.cell? ⟨w.heap.size + 1, 0, none⟩ = some (.int .i64 kind) := (hb1.cell (by simp; try omega)).trans (by go_simp)
      have p1_1 : w1.cell? ⟨w.heap.size, 1, none⟩ = some (.int .i64 rel) := (hb1.cell (by simp; try omega)).trans (by go_simp)
      have r1_1 : w1.cell? ⟨w.heap.size + 1, 1, none⟩ = some (.int .i64 rel') := (hb1.cell (by simp; try omega)).trans (by go_simp)
      have p1_2 : w1.cell? ⟨w.heap.size, 2, none⟩ = some (.slice a2 vals.length cap2) := (hb1.cell (by simp; try omega)).trans (by go_simp)
      have r1_2 : w1.cell? ⟨w.heap.size + 1, 2, none⟩ = some (.slice a2' vals'.length cap2') := (hb1.cell (by simp; try omega)).trans (by go_simp)
      clear hb1
      go_wp2
      go_ret
      exact ⟨by simp, hbb1⟩
  · have hn0 : (kind != kind') = true := by simp [hr0]
    rw [decide_eq_false hr0, Bool.false_and]
    go_enter Tryd.func29, Tryd.ntmps29
    go_wp2
    go_ret
    exact ⟨by simp, by go_grown⟩
end Go.Proofs.YtlcogbmceanghaaDoor

