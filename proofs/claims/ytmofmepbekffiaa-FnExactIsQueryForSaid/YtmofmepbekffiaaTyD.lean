/- Structs: readings, the laws' helpers on them (size, copy, equality). -/
import Derived.Test.YtmofmepbekffiaaTyC
namespace Go.Proofs.Ytmofmepbekffiaa
open Go.RowKit
set_option linter.unusedVariables false
set_option maxRecDepth 100000

/-- A database: its relations, its facts. -/
structure Dbs where
  rels : List Rel
  facts : List Fct
deriving DecidableEq
def cDbs : Cod Dbs := cMap (fun x => (x.rels, x.facts)) (cPair (cSlice cRel) (cSlice cFct))
theorem cDbs_fields {B : Nat} {w : World} {x : Dbs} {cs : List Value} (h : cDbs.ok B w x cs) : ∃ a0 cap0 a1 cap1, cs = [.slice a0 x.rels.length cap0, .slice a1 x.facts.length cap1] ∧ (cSlice cRel).ok B w x.rels [.slice a0 x.rels.length cap0] ∧ (cSlice cFct).ok B w x.facts [.slice a1 x.facts.length cap1] := by
  obtain ⟨_, _, rfl, h0, h1⟩ := h
  have k0 := h0
  obtain ⟨a0, cap0, rfl, _⟩ := k0
  have k1 := h1
  obtain ⟨a1, cap1, rfl, _⟩ := k1
  exact ⟨a0, cap0, a1, cap1, rfl, h0, h1⟩
theorem cDbs_open {B : Nat} {w : World} {x : Dbs} {cs : List Value} (h : cDbs.ok B w x cs) : ∃ a0 cap0 a1 cap1, cs = [.slice a0 x.rels.length cap0, .slice a1 x.facts.length cap1] ∧ cDbs.ok B w x [.slice a0 x.rels.length cap0, .slice a1 x.facts.length cap1] := by
  have h0 := h
  obtain ⟨a0, cap0, a1, cap1, rfl, _⟩ := cDbs_fields h
  exact ⟨a0, cap0, a1, cap1, rfl, h0⟩
theorem cDbs_inv {B : Nat} {w : World} {x : Dbs} {v0 v1 : Value} (h : cDbs.ok B w x [v0, v1]) : (cSlice cRel).ok B w x.rels [v0] ∧ (cSlice cFct).ok B w x.facts [v1] := by
  obtain ⟨a0, cap0, a1, cap1, e, h0, h1⟩ := cDbs_fields h
  simp only [List.cons.injEq, and_true] at e
  obtain ⟨rfl, rfl⟩ := e
  exact ⟨h0, h1⟩
theorem cDbs_mk {B : Nat} {w : World} {x : Dbs} {v0 v1 : Value} (h0 : (cSlice cRel).ok B w x.rels [v0]) (h1 : (cSlice cFct).ok B w x.facts [v1]) : cDbs.ok B w x [v0, v1] := ⟨[_], _, rfl, h0, h1⟩
theorem cDbs_own {lo hi lo0 hi0 lo1 hi1 : Nat} {w : World} {x : Dbs} {v0 v1 : Value} (h0 : OwnIn (cSlice cRel) lo0 hi0 w x.rels [v0]) (l0 : lo0 ≤ hi0) (h1 : OwnIn (cSlice cFct) lo1 hi1 w x.facts [v1]) (l1 : lo1 ≤ hi1) (q0 : lo ≤ lo0) (q1 : hi0 ≤ lo1) (q : hi1 ≤ hi) : OwnIn cDbs lo hi w x [v0, v1] := (OwnIn.pair (h0.wide (lo' := lo) (hi' := hi0) (by omega) (by omega)) (h1.wide (lo' := hi0) (hi' := hi) (by omega) (by omega)) (by omega) (by omega))
/-- Its size: its leaves behind slices. -/
def sizeDatabase (x : Dbs) : Nat := sizeRelationS x.rels + (sizeFactS x.facts)
theorem szDatabase_c {a0 : Option Addr} {cap0 : Nat} {a1 : Option Addr} {cap1 : Nat} {x : Dbs} {left : Int} {w : World} (hl : 0 ≤ left) (hl2 : left ≤ 1048576) (h : At cDbs w x [.slice a0 x.rels.length cap0, .slice a1 x.facts.length cap1]) :
    Calls Try.prog 23 #[.agg #[.slice a0 x.rels.length cap0, .slice a1 x.facts.length cap1], .int .i64 left] w fun e w' => e = .returned (.int .i64 (szR left (sizeDatabase x))) ∧ Below w.heap.size w w' := by
  obtain ⟨k0, k1⟩ := cDbs_inv h
  unfold sizeDatabase
  clear h
  obtain ⟨rels, facts⟩ := x
  simp only at *
  have H0 : Hid (∀ q : Int, 0 ≤ q → q ≤ 1048576 → ∀ ww, Below w.heap.size w ww → Calls Try.prog 15 #[.slice a0 rels.length cap0, .int .i64 q] ww fun e w' => e = .returned (.int .i64 (szR q (sizeRelationS rels))) ∧ Below ww.heap.size ww w') :=
    fun q h0 h1 ww hb => szRelationS_c h0 h1 (At.below (c := (cSlice cRel)) k0 hb (Nat.le_refl _))
  have H1 : Hid (∀ q : Int, 0 ≤ q → q ≤ 1048576 → ∀ ww, Below w.heap.size w ww → Calls Try.prog 75 #[.slice a1 facts.length cap1, .int .i64 q] ww fun e w' => e = .returned (.int .i64 (szR q (sizeFactS facts))) ∧ Below ww.heap.size ww w') :=
    fun q h0 h1 ww hb => szFactS_c h0 h1 (At.below (c := (cSlice cFct)) k1 hb (Nat.le_refl _))
  clear k0 k1
  have G0 := Lib.hid (H0.out (left) (by omega) (by omega))
  rw [szR_step (left) (sizeRelationS rels)]
  have hn0 : szR (left) (sizeRelationS rels) < 0 → szR (left) (sizeRelationS rels) = -1 := szR_neg
  have hle0 := szR_le (left) (sizeRelationS rels) (by omega)
  generalize szR (left) (sizeRelationS rels) = z0 at *
  by_cases hz0 : z0 < 0
  · obtain rfl : z0 = -1 := hn0 hz0
    clear hn0
    rw [if_pos (by decide)]
    go_enter Try.func23, Try.ntmps23
    go_wp2_with fail
    refine (G0.out _ ?hb).mono ?_
    case hb => go_grown
    rintro e w1 ⟨rfl, hb1⟩
    have hbb1 : Below w.heap.size w w1 := Below.trans (by go_grown) (hb1.mono (by simp; try omega))
    have hsz1 : w.heap.size + 1 ≤ w1.heap.size := by have := hb1.size; simp at this; omega
    have p1_0 : w1.cell? ⟨w.heap.size, 0, none⟩ = some (.slice a0 rels.length cap0) := (hb1.cell (by simp)).trans (by go_simp)
    have p1_1 : w1.cell? ⟨w.heap.size, 1, none⟩ = some (.slice a1 facts.length cap1) := (hb1.cell (by simp)).trans (by go_simp)
    clear hb1
    go_wp2
    go_ret
    exact ⟨rfl, hbb1⟩
  · clear hn0
    rw [if_neg hz0]
    have G1 := Lib.hid (H1.out (z0) (by omega) (by omega))
    have hn1 : szR (z0) (sizeFactS facts) < 0 → szR (z0) (sizeFactS facts) = -1 := szR_neg
    have hle1 := szR_le (z0) (sizeFactS facts) (by omega)
    generalize szR (z0) (sizeFactS facts) = z1 at *
    by_cases hz1 : z1 < 0
    · obtain rfl : z1 = -1 := hn1 hz1
      clear hn1
      go_enter Try.func23, Try.ntmps23
      go_wp2_with fail
      refine (G0.out _ ?hb).mono ?_
      case hb => go_grown
      rintro e w1 ⟨rfl, hb1⟩
      have hbb1 : Below w.heap.size w w1 := Below.trans (by go_grown) (hb1.mono (by simp; try omega))
      have hsz1 : w.heap.size + 1 ≤ w1.heap.size := by have := hb1.size; simp at this; omega
      have p1_0 : w1.cell? ⟨w.heap.size, 0, none⟩ = some (.slice a0 rels.length cap0) := (hb1.cell (by simp)).trans (by go_simp)
      have p1_1 : w1.cell? ⟨w.heap.size, 1, none⟩ = some (.slice a1 facts.length cap1) := (hb1.cell (by simp)).trans (by go_simp)
      clear hb1
      go_wp2_with fail
      refine (G1.out _ ?hb).mono ?_
      case hb => exact hbb1
      rintro e w2 ⟨rfl, hb2⟩
      have hbb2 : Below w.heap.size w w2 := hbb1.trans (hb2.mono (by omega))
      have hsz2 : w.heap.size + 1 ≤ w2.heap.size := by have := hb2.size; omega
      have p2_0 := (hb2.cell (p := ⟨w.heap.size, 0, none⟩) (by simp; try omega)).trans p1_0
      have p2_1 := (hb2.cell (p := ⟨w.heap.size, 1, none⟩) (by simp; try omega)).trans p1_1
      clear p1_0 p1_1
      clear hb2
      go_wp2
      go_ret
      exact ⟨rfl, hbb2⟩
    · clear hn1
      go_enter Try.func23, Try.ntmps23
      go_wp2_with fail
      refine (G0.out _ ?hb).mono ?_
      case hb => go_grown
      rintro e w1 ⟨rfl, hb1⟩
      have hbb1 : Below w.heap.size w w1 := Below.trans (by go_grown) (hb1.mono (by simp; try omega))
      have hsz1 : w.heap.size + 1 ≤ w1.heap.size := by have := hb1.size; simp at this; omega
      have p1_0 : w1.cell? ⟨w.heap.size, 0, none⟩ = some (.slice a0 rels.length cap0) := (hb1.cell (by simp)).trans (by go_simp)
      have p1_1 : w1.cell? ⟨w.heap.size, 1, none⟩ = some (.slice a1 facts.length cap1) := (hb1.cell (by simp)).trans (by go_simp)
      clear hb1
      go_wp2_with fail
      refine (G1.out _ ?hb).mono ?_
      case hb => exact hbb1
      rintro e w2 ⟨rfl, hb2⟩
      have hbb2 : Below w.heap.size w w2 := hbb1.trans (hb2.mono (by omega))
      have hsz2 : w.heap.size + 1 ≤ w2.heap.size := by have := hb2.size; omega
      have p2_0 := (hb2.cell (p := ⟨w.heap.size, 0, none⟩) (by simp; try omega)).trans p1_0
      have p2_1 := (hb2.cell (p := ⟨w.heap.size, 1, none⟩) (by simp; try omega)).trans p1_1
      clear p1_0 p1_1
      clear hb2
      go_wp2
      go_ret
      exact ⟨rfl, hbb2⟩
set_option maxHeartbeats 800000 in
theorem toDatabase_c {a0 : Option Addr} {cap0 : Nat} {a1 : Option Addr} {cap1 : Nat} {x : Dbs} {w : World} (hs : sizeDatabase x ≤ 1048576) (h : At cDbs w x [.slice a0 x.rels.length cap0, .slice a1 x.facts.length cap1]) :
    Calls Try.prog 25 #[.agg #[.slice a0 x.rels.length cap0, .slice a1 x.facts.length cap1]] w fun e w' => (∃ a0' cap0' a1' cap1', e = .returned (.agg #[.slice a0' x.rels.length cap0', .slice a1' x.facts.length cap1']) ∧ Own cDbs w.heap.size w' x [.slice a0' x.rels.length cap0', .slice a1' x.facts.length cap1']) ∧ Below w.heap.size w w' := by
  unfold sizeDatabase at hs
  obtain ⟨k0, k1⟩ := cDbs_inv h
  clear h
  obtain ⟨rels, facts⟩ := x
  simp only at *
  have H0 : Hid (∀ ww, Below w.heap.size w ww → Calls Try.prog 18 #[.slice a0 rels.length cap0] ww fun e w' => (∃ a' cap', e = .returned (.slice a' rels.length cap') ∧ Own (cSlice cRel) ww.heap.size w' rels [.slice a' rels.length cap']) ∧ Below ww.heap.size ww w') :=
    fun ww hb => toRelationS_c (by omega) (At.below (c := (cSlice cRel)) k0 hb (Nat.le_refl _))
  have H1 : Hid (∀ ww, Below w.heap.size w ww → Calls Try.prog 77 #[.slice a1 facts.length cap1] ww fun e w' => (∃ a' cap', e = .returned (.slice a' facts.length cap') ∧ Own (cSlice cFct) ww.heap.size w' facts [.slice a' facts.length cap']) ∧ Below ww.heap.size ww w') :=
    fun ww hb => toFactS_c (by omega) (At.below (c := (cSlice cFct)) k1 hb (Nat.le_refl _))
  clear hs k0 k1
  go_enter Try.func25, Try.ntmps25
  go_wp2_with fail
  refine (H0.out _ ?hb).mono ?_
  case hb => go_grown
  rintro e w1 ⟨⟨a0', cap0', rfl, ho0⟩, hb1⟩
  have hbb1 : Below w.heap.size w w1 := Below.trans (by go_grown) (hb1.mono (by simp; try omega))
  have hsz1 : w.heap.size + 3 ≤ w1.heap.size := by have := hb1.size; simp at this; omega
  have p1_0 : w1.cell? ⟨w.heap.size, 0, none⟩ = some (.slice a0 rels.length cap0) := (hb1.cell (by simp; try omega)).trans (by go_simp)
  have o1_0 : w1.cell? ⟨w.heap.size + 1 + 1, 0, none⟩ = some (.slice none 0 0) := (hb1.cell (by simp; try omega)).trans (by go_simp)
  have f1_0 : w1.frozen? ⟨w.heap.size + 1 + 1, 0, none⟩ = false := (hb1.frozen (by simp; try omega)).trans (by go_simp)
  have e1_0 : w1.cell? ⟨w.heap.size + 1, 0, none⟩ = some (.slice none 0 0) := (hb1.cell (by simp; try omega)).trans (by go_simp)
  have g1_0 : w1.frozen? ⟨w.heap.size + 1, 0, none⟩ = false := (hb1.frozen (by simp; try omega)).trans (by go_simp)
  have p1_1 : w1.cell? ⟨w.heap.size, 1, none⟩ = some (.slice a1 facts.length cap1) := (hb1.cell (by simp; try omega)).trans (by go_simp)
  have o1_1 : w1.cell? ⟨w.heap.size + 1 + 1, 1, none⟩ = some (.slice none 0 0) := (hb1.cell (by simp; try omega)).trans (by go_simp)
  have f1_1 : w1.frozen? ⟨w.heap.size + 1 + 1, 1, none⟩ = false := (hb1.frozen (by simp; try omega)).trans (by go_simp)
  have e1_1 : w1.cell? ⟨w.heap.size + 1, 1, none⟩ = some (.slice none 0 0) := (hb1.cell (by simp; try omega)).trans (by go_simp)
  have g1_1 : w1.frozen? ⟨w.heap.size + 1, 1, none⟩ = false := (hb1.frozen (by simp; try omega)).trans (by go_simp)
  have hR1 : w1.heap[w.heap.size + 1]? = some (.cells #[.slice none 0 0, .slice none 0 0] 46 (0, 0)) := (hb1.block _ (by simp; try omega)).trans (by rw [Go.heap_alloc_old _ _ (by simp; try omega)]; exact heap_alloc2_new _ _ _)
  have u0 : OwnIn (cSlice cRel) (w.heap.size + 3) w1.heap.size w1 rels _ := OwnIn.wide ho0 (by simp; try omega) (Nat.le_refl _)
  clear hb1 ho0
  go_wp2_with fail
  refine (H1.out _ ?hb).mono ?_
  case hb => exact hbb1.setCell (by simp; try omega) _
  rintro e w2 ⟨⟨a1', cap1', rfl, ho1⟩, hb2⟩
  have hW : (w1.setCell ⟨w.heap.size + 1 + 1, 0, none⟩ (.slice a0' rels.length cap0')).heap.size = w1.heap.size := by simp [World.setCell]
  rw [hW] at ho1 hb2
  have hbb2 : Below w.heap.size w w2 := (hbb1.setCell (p := ⟨w.heap.size + 1 + 1, 0, none⟩) (by simp; try omega) _).trans (hb2.mono (by omega))
  have hsz2 : w.heap.size + 3 ≤ w2.heap.size := by have := hb2.size; rw [hW] at this; omega
  have p2_0 := (hb2.cell (p := ⟨w.heap.size, 0, none⟩) (by simp; try omega)).trans ((World.cell?_setCell_other _ _ _ _ (by first | (simp; done) | (simp; omega))).trans p1_0)
  have o2_0 := (hb2.cell (p := ⟨w.heap.size + 1 + 1, 0, none⟩) (by simp; try omega)).trans (World.cell?_setCell_same _ _ _ o1_0)
  have f2_0 := (hb2.frozen (p := ⟨w.heap.size + 1 + 1, 0, none⟩) (by simp; try omega)).trans ((World.frozen?_setCell _ _ _ _).trans f1_0)
  have e2_0 := (hb2.cell (p := ⟨w.heap.size + 1, 0, none⟩) (by simp; try omega)).trans ((World.cell?_setCell_other _ _ _ _ (by first | (simp; done) | (simp; omega))).trans e1_0)
  have g2_0 := (hb2.frozen (p := ⟨w.heap.size + 1, 0, none⟩) (by simp; try omega)).trans ((World.frozen?_setCell _ _ _ _).trans g1_0)
  have p2_1 := (hb2.cell (p := ⟨w.heap.size, 1, none⟩) (by simp; try omega)).trans ((World.cell?_setCell_other _ _ _ _ (by first | (simp; done) | (simp; omega))).trans p1_1)
  have o2_1 := (hb2.cell (p := ⟨w.heap.size + 1 + 1, 1, none⟩) (by simp; try omega)).trans ((World.cell?_setCell_other _ _ _ _ (by first | (simp; done) | (simp; omega))).trans o1_1)
  have f2_1 := (hb2.frozen (p := ⟨w.heap.size + 1 + 1, 1, none⟩) (by simp; try omega)).trans ((World.frozen?_setCell _ _ _ _).trans f1_1)
  have e2_1 := (hb2.cell (p := ⟨w.heap.size + 1, 1, none⟩) (by simp; try omega)).trans ((World.cell?_setCell_other _ _ _ _ (by first | (simp; done) | (simp; omega))).trans e1_1)
  have g2_1 := (hb2.frozen (p := ⟨w.heap.size + 1, 1, none⟩) (by simp; try omega)).trans ((World.frozen?_setCell _ _ _ _).trans g1_1)
  have hR2 := (hb2.block (w.heap.size + 1) (by omega)).trans ((heap_setCell_other _ _ _ _ (by simp)).trans hR1)
  have u0 := (OwnIn.setCell u0 (p := ⟨w.heap.size + 1 + 1, 0, none⟩) (by simp; try omega) (.slice a0' rels.length cap0')).below hb2 (by omega)
  have u1 : OwnIn (cSlice cFct) w1.heap.size w2.heap.size w2 facts _ := ho1
  have hm0 := hb2.size
  rw [hW] at hm0
  clear hW p1_0 o1_0 f1_0 e1_0 g1_0 p1_1 o1_1 f1_1 e1_1 g1_1 hR1
  clear hb2 ho1
  have U0 := Lib.hid u0
  have U1 := Lib.hid u1
  clear u0 u1
  go_wp2
  (try simp only [Exit.inBlock, Exit.then])
  refine bodyPost_ret (results_cell_row rfl _ _ (w.heap.size + 1) _ _ _ _ rfl (heap_setCell_same _ _ 1 _ _ _ (heap_setCell_same _ _ 0 _ _ _ ((heap_setCell_other _ _ _ _ (by simp)).trans (hR2)))) Try.underlying46 rfl (by kernel_rfl)) rfl ?_
  exact ⟨⟨_, _, _, _, rfl, OwnIn.own (cDbs_own (x := ⟨rels, facts⟩) (lo := w.heap.size) (hi := w2.heap.size) ((((U0.out).setCell (by simp; try omega) _).setCell (by simp; try omega) _).setCell (by simp; try omega) _) (by omega) ((((U1.out).setCell (by simp; try omega) _).setCell (by simp; try omega) _).setCell (by simp; try omega) _) (by omega) (by omega) (by omega) (by omega)) (by simp [World.setCell])⟩, (((hbb2).setCell (by simp; try omega) _).setCell (by simp; try omega) _).setCell (by simp; try omega) _⟩
theorem eqDatabase_c {a0 : Option Addr} {cap0 : Nat} {a1 : Option Addr} {cap1 : Nat} {a0' : Option Addr} {cap0' : Nat} {a1' : Option Addr} {cap1' : Nat} {x y : Dbs} {w : World} (h : At cDbs w x [.slice a0 x.rels.length cap0, .slice a1 x.facts.length cap1]) (h' : At cDbs w y [.slice a0' y.rels.length cap0', .slice a1' y.facts.length cap1']) :
    Calls Try.prog 27 #[.agg #[.slice a0 x.rels.length cap0, .slice a1 x.facts.length cap1], .agg #[.slice a0' y.rels.length cap0', .slice a1' y.facts.length cap1']] w fun e w' => e = .returned (.bool (decide (x = y))) ∧ Below w.heap.size w w' := by
  obtain ⟨k0, k1⟩ := cDbs_inv h
  obtain ⟨m0, m1⟩ := cDbs_inv h'
  clear h h'
  obtain ⟨rels, facts⟩ := x
  obtain ⟨rels', facts'⟩ := y
  have he : decide (Dbs.mk rels facts = Dbs.mk rels' facts') = (decide (rels = rels') && decide (facts = facts')) := by
    simp only [← Bool.decide_and]; congr 1; rw [Dbs.mk.injEq]
  rw [he]
  clear he
  simp only at *
  have H0 : Hid (∀ ww, Below w.heap.size w ww → Calls Try.prog 21 #[.slice a0 rels.length cap0, .slice a0' rels'.length cap0'] ww fun e w' => e = .returned (.bool (decide (rels = rels'))) ∧ Below ww.heap.size ww w') :=
    fun ww hb => eqRelationS_c (At.below (c := (cSlice cRel)) k0 hb (Nat.le_refl _)) (At.below (c := (cSlice cRel)) m0 hb (Nat.le_refl _))
  have H1 : Hid (∀ ww, Below w.heap.size w ww → Calls Try.prog 79 #[.slice a1 facts.length cap1, .slice a1' facts'.length cap1'] ww fun e w' => e = .returned (.bool (decide (facts = facts'))) ∧ Below ww.heap.size ww w') :=
    fun ww hb => eqFactS_c (At.below (c := (cSlice cFct)) k1 hb (Nat.le_refl _)) (At.below (c := (cSlice cFct)) m1 hb (Nat.le_refl _))
  clear k0 m0 k1 m1
  generalize decide (rels = rels') = z0 at *
  cases z0 with
  | true =>
    rw [Bool.true_and]
    generalize decide (facts = facts') = z1 at *
    cases z1 with
    | true =>
      go_enter Try.func27, Try.ntmps27
      go_wp2_with fail
      refine (H0.out _ ?hb).mono ?_
      case hb => go_grown
      rintro e w1 ⟨rfl, hb1⟩
      have hbb1 : Below w.heap.size w w1 := Below.trans (by go_grown) (hb1.mono (by simp; try omega))
      have hsz1 : w.heap.size + 2 ≤ w1.heap.size := by have := hb1.size; simp at this; omega
      have p1_0 : w1.cell? ⟨w.heap.size, 0, none⟩ = some (.slice a0 rels.length cap0) := (hb1.cell (by simp; try omega)).trans (by go_simp)
      have r1_0 : w1.cell? ⟨w.heap.size + 1, 0, none⟩ = some (.slice a0' rels'.length cap0') := (hb1.cell (by simp; try omega)).trans (by go_simp)
      have p1_1 : w1.cell? ⟨w.heap.size, 1, none⟩ = some (.slice a1 facts.length cap1) := (hb1.cell (by simp; try omega)).trans (by go_simp)
      have r1_1 : w1.cell? ⟨w.heap.size + 1, 1, none⟩ = some (.slice a1' facts'.length cap1') := (hb1.cell (by simp; try omega)).trans (by go_simp)
      clear hb1
      go_wp2_with fail
      refine (H1.out _ ?hb).mono ?_
      case hb => exact hbb1
      rintro e w2 ⟨rfl, hb2⟩
      have hbb2 : Below w.heap.size w w2 := hbb1.trans (hb2.mono (by omega))
      have hsz2 : w.heap.size + 2 ≤ w2.heap.size := by have := hb2.size; omega
      have p2_0 := (hb2.cell (p := ⟨w.heap.size, 0, none⟩) (by simp; try omega)).trans p1_0
      have r2_0 := (hb2.cell (p := ⟨w.heap.size + 1, 0, none⟩) (by simp; try omega)).trans r1_0
      have p2_1 := (hb2.cell (p := ⟨w.heap.size, 1, none⟩) (by simp; try omega)).trans p1_1
      have r2_1 := (hb2.cell (p := ⟨w.heap.size + 1, 1, none⟩) (by simp; try omega)).trans r1_1
      clear p1_0 r1_0 p1_1 r1_1
      clear hb2
      go_wp2
      go_ret
      exact ⟨by simp, hbb2⟩
    | false =>
      go_enter Try.func27, Try.ntmps27
      go_wp2_with fail
      refine (H0.out _ ?hb).mono ?_
      case hb => go_grown
      rintro e w1 ⟨rfl, hb1⟩
      have hbb1 : Below w.heap.size w w1 := Below.trans (by go_grown) (hb1.mono (by simp; try omega))
      have hsz1 : w.heap.size + 2 ≤ w1.heap.size := by have := hb1.size; simp at this; omega
      have p1_0 : w1.cell? ⟨w.heap.size, 0, none⟩ = some (.slice a0 rels.length cap0) := (hb1.cell (by simp; try omega)).trans (by go_simp)
      have r1_0 : w1.cell? ⟨w.heap.size + 1, 0, none⟩ = some (.slice a0' rels'.length cap0') := (hb1.cell (by simp; try omega)).trans (by go_simp)
      have p1_1 : w1.cell? ⟨w.heap.size, 1, none⟩ = some (.slice a1 facts.length cap1) := (hb1.cell (by simp; try omega)).trans (by go_simp)
      have r1_1 : w1.cell? ⟨w.heap.size + 1, 1, none⟩ = some (.slice a1' facts'.length cap1') := (hb1.cell (by simp; try omega)).trans (by go_simp)
      clear hb1
      go_wp2_with fail
      refine (H1.out _ ?hb).mono ?_
      case hb => exact hbb1
      rintro e w2 ⟨rfl, hb2⟩
      have hbb2 : Below w.heap.size w w2 := hbb1.trans (hb2.mono (by omega))
      have hsz2 : w.heap.size + 2 ≤ w2.heap.size := by have := hb2.size; omega
      have p2_0 := (hb2.cell (p := ⟨w.heap.size, 0, none⟩) (by simp; try omega)).trans p1_0
      have r2_0 := (hb2.cell (p := ⟨w.heap.size + 1, 0, none⟩) (by simp; try omega)).trans r1_0
      have p2_1 := (hb2.cell (p := ⟨w.heap.size, 1, none⟩) (by simp; try omega)).trans p1_1
      have r2_1 := (hb2.cell (p := ⟨w.heap.size + 1, 1, none⟩) (by simp; try omega)).trans r1_1
      clear p1_0 r1_0 p1_1 r1_1
      clear hb2
      go_wp2
      go_ret
      exact ⟨by simp, hbb2⟩
  | false =>
    rw [Bool.false_and]
    go_enter Try.func27, Try.ntmps27
    go_wp2_with fail
    refine (H0.out _ ?hb).mono ?_
    case hb => go_grown
    rintro e w1 ⟨rfl, hb1⟩
    have hbb1 : Below w.heap.size w w1 := Below.trans (by go_grown) (hb1.mono (by simp; try omega))
    have hsz1 : w.heap.size + 2 ≤ w1.heap.size := by have := hb1.size; simp at this; omega
    have p1_0 : w1.cell? ⟨w.heap.size, 0, none⟩ = some (.slice a0 rels.length cap0) := (hb1.cell (by simp; try omega)).trans (by go_simp)
    have r1_0 : w1.cell? ⟨w.heap.size + 1, 0, none⟩ = some (.slice a0' rels'.length cap0') := (hb1.cell (by simp; try omega)).trans (by go_simp)
    have p1_1 : w1.cell? ⟨w.heap.size, 1, none⟩ = some (.slice a1 facts.length cap1) := (hb1.cell (by simp; try omega)).trans (by go_simp)
    have r1_1 : w1.cell? ⟨w.heap.size + 1, 1, none⟩ = some (.slice a1' facts'.length cap1') := (hb1.cell (by simp; try omega)).trans (by go_simp)
    clear hb1
    go_wp2
    go_ret
    exact ⟨by simp, hbb1⟩
end Go.Proofs.Ytmofmepbekffiaa

