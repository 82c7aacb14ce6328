/- Structs that hold structs: readings, the laws' helpers on them (size, copy, equality). -/
import Derived.Test.YtpcjhnbifgjleaaTyTre
namespace Go.Proofs.Ytpcjhnbifgjleaa
open Go.RowKit
set_option linter.unusedVariables false
set_option maxRecDepth 100000

/-- A view: a database, a query, two lists of rows. -/
structure Vew where
  db : Dbs
  qry : Qry
  sure : List (List Int)
  open_ : List (List Int)
deriving DecidableEq
def cVew : Cod Vew := cMap (fun x => (x.db, (x.qry, (x.sure, x.open_)))) (cPair cDbs (cPair cQry (cPair (cSlice (cSlice cInt)) (cSlice (cSlice cInt)))))
theorem cVew_fields {B : Nat} {w : World} {x : Vew} {cs : List Value} (h : cVew.ok B w x cs) : ∃ a0 cap0 a1 cap1 a3 cap3 a4 cap4 a5 cap5 a6 cap6, cs = [.slice a0 x.db.rels.length cap0, .slice a1 x.db.facts.length cap1, .int .i64 x.qry.vars, .slice a3 x.qry.atoms.length cap3, .slice a4 x.qry.free.length cap4, .slice a5 x.sure.length cap5, .slice a6 x.open_.length cap6] ∧ cDbs.ok B w x.db [.slice a0 x.db.rels.length cap0, .slice a1 x.db.facts.length cap1] ∧ cQry.ok B w x.qry [.int .i64 x.qry.vars, .slice a3 x.qry.atoms.length cap3, .slice a4 x.qry.free.length cap4] ∧ (cSlice (cSlice cInt)).ok B w x.sure [.slice a5 x.sure.length cap5] ∧ (cSlice (cSlice cInt)).ok B w x.open_ [.slice a6 x.open_.length cap6] := by
  obtain ⟨_, _, rfl, h0, _, _, rfl, h1, _, _, rfl, h2, h3⟩ := h
  obtain ⟨a0, cap0, a1, cap1, rfl, k0⟩ := cDbs_open h0
  obtain ⟨a3, cap3, a4, cap4, rfl, k1⟩ := cQry_open h1
  have k2 := h2
  obtain ⟨a5, cap5, rfl, _⟩ := k2
  have k3 := h3
  obtain ⟨a6, cap6, rfl, _⟩ := k3
  exact ⟨a0, cap0, a1, cap1, a3, cap3, a4, cap4, a5, cap5, a6, cap6, rfl, k0, k1, h2, h3⟩
theorem cVew_open {B : Nat} {w : World} {x : Vew} {cs : List Value} (h : cVew.ok B w x cs) : ∃ a0 cap0 a1 cap1 a3 cap3 a4 cap4 a5 cap5 a6 cap6, cs = [.slice a0 x.db.rels.length cap0, .slice a1 x.db.facts.length cap1, .int .i64 x.qry.vars, .slice a3 x.qry.atoms.length cap3, .slice a4 x.qry.free.length cap4, .slice a5 x.sure.length cap5, .slice a6 x.open_.length cap6] ∧ cVew.ok B w x [.slice a0 x.db.rels.length cap0, .slice a1 x.db.facts.length cap1, .int .i64 x.qry.vars, .slice a3 x.qry.atoms.length cap3, .slice a4 x.qry.free.length cap4, .slice a5 x.sure.length cap5, .slice a6 x.open_.length cap6] := by
  have h0 := h
  obtain ⟨a0, cap0, a1, cap1, a3, cap3, a4, cap4, a5, cap5, a6, cap6, rfl, _⟩ := cVew_fields h
  exact ⟨a0, cap0, a1, cap1, a3, cap3, a4, cap4, a5, cap5, a6, cap6, rfl, h0⟩
theorem cVew_inv {B : Nat} {w : World} {x : Vew} {v0 v1 v2 v3 v4 v5 v6 : Value} (h : cVew.ok B w x [v0, v1, v2, v3, v4, v5, v6]) : cDbs.ok B w x.db [v0, v1] ∧ cQry.ok B w x.qry [v2, v3, v4] ∧ (cSlice (cSlice cInt)).ok B w x.sure [v5] ∧ (cSlice (cSlice cInt)).ok B w x.open_ [v6] := by
  obtain ⟨a0, cap0, a1, cap1, a3, cap3, a4, cap4, a5, cap5, a6, cap6, e, h0, h1, h2, h3⟩ := cVew_fields h
  simp only [List.cons.injEq, and_true] at e
  obtain ⟨rfl, rfl, rfl, rfl, rfl, rfl, rfl⟩ := e
  exact ⟨h0, h1, h2, h3⟩
theorem cVew_own {lo hi lo0 hi0 lo1 hi1 lo2 hi2 lo3 hi3 : Nat} {w : World} {x : Vew} {v0 v1 v2 v3 v4 v5 v6 : Value} (h0 : OwnIn cDbs lo0 hi0 w x.db [v0, v1]) (l0 : lo0 ≤ hi0) (h1 : OwnIn cQry lo1 hi1 w x.qry [v2, v3, v4]) (l1 : lo1 ≤ hi1) (h2 : OwnIn (cSlice (cSlice cInt)) lo2 hi2 w x.sure [v5]) (l2 : lo2 ≤ hi2) (h3 : OwnIn (cSlice (cSlice cInt)) lo3 hi3 w x.open_ [v6]) (l3 : lo3 ≤ hi3) (q0 : lo ≤ lo0) (q1 : hi0 ≤ lo1) (q2 : hi1 ≤ lo2) (q3 : hi2 ≤ lo3) (q : hi3 ≤ hi) : OwnIn cVew lo hi w x [v0, v1, v2, v3, v4, v5, v6] := (OwnIn.pair (h0.wide (lo' := lo) (hi' := hi0) (by omega) (by omega)) (OwnIn.pair (h1.wide (lo' := hi0) (hi' := hi1) (by omega) (by omega)) (OwnIn.pair (h2.wide (lo' := hi1) (hi' := hi2) (by omega) (by omega)) (h3.wide (lo' := hi2) (hi' := hi) (by omega) (by omega)) (by omega) (by omega)) (by omega) (by omega)) (by omega) (by omega))
/-- Its size: its leaves behind slices. -/
def sizeView (x : Vew) : Nat := sizeDatabase x.db + (sizeQuery x.qry + (sizeIntSS x.sure + (sizeIntSS x.open_)))
theorem szView_c {a0 : Option Addr} {cap0 : Nat} {a1 : Option Addr} {cap1 : Nat} {a3 : Option Addr} {cap3 : Nat} {a4 : Option Addr} {cap4 : Nat} {a5 : Option Addr} {cap5 : Nat} {a6 : Option Addr} {cap6 : Nat} {x : Vew} {left : Int} {w : World} (hl : 0 ≤ left) (hl2 : left ≤ 1048576) (h : At cVew w x [.slice a0 x.db.rels.length cap0, .slice a1 x.db.facts.length cap1, .int .i64 x.qry.vars, .slice a3 x.qry.atoms.length cap3, .slice a4 x.qry.free.length cap4, .slice a5 x.sure.length cap5, .slice a6 x.open_.length cap6]) :
    Calls Try.prog 4 #[.agg #[.slice a0 x.db.rels.length cap0, .slice a1 x.db.facts.length cap1, .int .i64 x.qry.vars, .slice a3 x.qry.atoms.length cap3, .slice a4 x.qry.free.length cap4, .slice a5 x.sure.length cap5, .slice a6 x.open_.length cap6], .int .i64 left] w fun e w' => e = .returned (.int .i64 (szR left (sizeView x))) ∧ Below w.heap.size w w' := by
  obtain ⟨k0, k1, k2, k3⟩ := cVew_inv h
  unfold sizeView
  clear h
  obtain ⟨⟨db_rels, db_facts⟩, ⟨qry_vars, qry_atoms, qry_free⟩, sure, open_⟩ := x
  simp only at *
  have H0 : Hid (∀ q : Int, 0 ≤ q → q ≤ 1048576 → ∀ ww, Below w.heap.size w ww → Calls Try.prog 9 #[.agg #[.slice a0 db_rels.length cap0, .slice a1 db_facts.length cap1], .int .i64 q] ww fun e w' => e = .returned (.int .i64 (szR q (sizeDatabase (Dbs.mk db_rels db_facts)))) ∧ Below ww.heap.size ww w') :=
    fun q h0 h1 ww hb => szDatabase_c h0 h1 (At.below (c := cDbs) k0 hb (Nat.le_refl _))
  have H1 : Hid (∀ q : Int, 0 ≤ q → q ≤ 1048576 → ∀ ww, Below w.heap.size w ww → Calls Try.prog 10 #[.agg #[.int .i64 qry_vars, .slice a3 qry_atoms.length cap3, .slice a4 qry_free.length cap4], .int .i64 q] ww fun e w' => e = .returned (.int .i64 (szR q (sizeQuery (Qry.mk qry_vars qry_atoms qry_free)))) ∧ Below ww.heap.size ww w') :=
    fun q h0 h1 ww hb => szQuery_c h0 h1 (At.below (c := cQry) k1 hb (Nat.le_refl _))
  have H2 : Hid (∀ q : Int, 0 ≤ q → q ≤ 1048576 → ∀ ww, Below w.heap.size w ww → Calls Try.prog 11 #[.slice a5 sure.length cap5, .int .i64 q] ww fun e w' => e = .returned (.int .i64 (szR q (sizeIntSS sure))) ∧ Below ww.heap.size ww w') :=
    fun q h0 h1 ww hb => szIntSS_c h0 h1 (At.below (c := (cSlice (cSlice cInt))) k2 hb (Nat.le_refl _))
  have H3 : Hid (∀ q : Int, 0 ≤ q → q ≤ 1048576 → ∀ ww, Below w.heap.size w ww → Calls Try.prog 11 #[.slice a6 open_.length cap6, .int .i64 q] ww fun e w' => e = .returned (.int .i64 (szR q (sizeIntSS open_))) ∧ Below ww.heap.size ww w') :=
    fun q h0 h1 ww hb => szIntSS_c h0 h1 (At.below (c := (cSlice (cSlice cInt))) k3 hb (Nat.le_refl _))
  clear k0 k1 k2 k3
  generalize sizeDatabase (Dbs.mk db_rels db_facts) = Z0 at *
  generalize sizeQuery (Qry.mk qry_vars qry_atoms qry_free) = Z1 at *
  have G0 := Lib.hid (H0.out (left) (by omega) (by omega))
  rw [szR_step (left) (Z0)]
  have hn0 : szR (left) (Z0) < 0 → szR (left) (Z0) = -1 := szR_neg
  have hle0 := szR_le (left) (Z0) (by omega)
  generalize szR (left) (Z0) = z0 at *
  by_cases hz0 : z0 < 0
  · obtain rfl : z0 = -1 := hn0 hz0
    clear hn0
    rw [if_pos (by decide)]
    go_enter Try.func4, Try.ntmps4
    go_wp2_with fail
    refine (G0.out _ ?hb).mono ?_
    case hb => go_grown
    rintro e w1 ⟨rfl, hb1⟩
    have hbb1 : Below w.heap.size w w1 := Below.trans (by go_grown) (hb1.mono (by simp; try omega))
    have hsz1 : w.heap.size + 1 ≤ w1.heap.size := by have := hb1.size; simp at this; omega
    have p1_0 : w1.cell? ⟨w.heap.size, 0, none⟩ = some (.slice a0 db_rels.length cap0) := (hb1.cell (by simp)).trans (by go_simp)
    have p1_1 : w1.cell? ⟨w.heap.size, 1, none⟩ = some (.slice a1 db_facts.length cap1) := (hb1.cell (by simp)).trans (by go_simp)
    have p1_2 : w1.cell? ⟨w.heap.size, 2, none⟩ = some (.int .i64 qry_vars) := (hb1.cell (by simp)).trans (by go_simp)
    have p1_3 : w1.cell? ⟨w.heap.size, 3, none⟩ = some (.slice a3 qry_atoms.length cap3) := (hb1.cell (by simp)).trans (by go_simp)
    have p1_4 : w1.cell? ⟨w.heap.size, 4, none⟩ = some (.slice a4 qry_free.length cap4) := (hb1.cell (by simp)).trans (by go_simp)
    have p1_5 : w1.cell? ⟨w.heap.size, 5, none⟩ = some (.slice a5 sure.length cap5) := (hb1.cell (by simp)).trans (by go_simp)
    have p1_6 : w1.cell? ⟨w.heap.size, 6, none⟩ = some (.slice a6 open_.length cap6) := (hb1.cell (by simp)).trans (by go_simp)
    clear hb1
    go_wp2
    go_ret
    exact ⟨rfl, hbb1⟩
  · clear hn0
    rw [if_neg hz0]
    have G1 := Lib.hid (H1.out (z0) (by omega) (by omega))
    rw [szR_step (z0) (Z1)]
    have hn1 : szR (z0) (Z1) < 0 → szR (z0) (Z1) = -1 := szR_neg
    have hle1 := szR_le (z0) (Z1) (by omega)
    generalize szR (z0) (Z1) = z1 at *
    by_cases hz1 : z1 < 0
    · obtain rfl : z1 = -1 := hn1 hz1
      clear hn1
      rw [if_pos (by decide)]
      go_enter Try.func4, Try.ntmps4
      go_wp2_with fail
      refine (G0.out _ ?hb).mono ?_
      case hb => go_grown
      rintro e w1 ⟨rfl, hb1⟩
      have hbb1 : Below w.heap.size w w1 := Below.trans (by go_grown) (hb1.mono (by simp; try omega))
      have hsz1 : w.heap.size + 1 ≤ w1.heap.size := by have := hb1.size; simp at this; omega
      have p1_0 : w1.cell? ⟨w.heap.size, 0, none⟩ = some (.slice a0 db_rels.length cap0) := (hb1.cell (by simp)).trans (by go_simp)
      have p1_1 : w1.cell? ⟨w.heap.size, 1, none⟩ = some (.slice a1 db_facts.length cap1) := (hb1.cell (by simp)).trans (by go_simp)
      have p1_2 : w1.cell? ⟨w.heap.size, 2, none⟩ = some (.int .i64 qry_vars) := (hb1.cell (by simp)).trans (by go_simp)
      have p1_3 : w1.cell? ⟨w.heap.size, 3, none⟩ = some (.slice a3 qry_atoms.length cap3) := (hb1.cell (by simp)).trans (by go_simp)
      have p1_4 : w1.cell? ⟨w.heap.size, 4, none⟩ = some (.slice a4 qry_free.length cap4) := (hb1.cell (by simp)).trans (by go_simp)
      have p1_5 : w1.cell? ⟨w.heap.size, 5, none⟩ = some (.slice a5 sure.length cap5) := (hb1.cell (by simp)).trans (by go_simp)
      have p1_6 : w1.cell? ⟨w.heap.size, 6, none⟩ = some (.slice a6 open_.length cap6) := (hb1.cell (by simp)).trans (by go_simp)
      clear hb1
      go_wp2_with fail
      refine (G1.out _ ?hb).mono ?_
      case hb => exact hbb1
      rintro e w2 ⟨rfl, hb2⟩
      have hbb2 : Below w.heap.size w w2 := hbb1.trans (hb2.mono (by omega))
      have hsz2 : w.heap.size + 1 ≤ w2.heap.size := by have := hb2.size; omega
      have p2_0 := (hb2.cell (p := ⟨w.heap.size, 0, none⟩) (by simp; try omega)).trans p1_0
      have p2_1 := (hb2.cell (p := ⟨w.heap.size, 1, none⟩) (by simp; try omega)).trans p1_1
      have p2_2 := (hb2.cell (p := ⟨w.heap.size, 2, none⟩) (by simp; try omega)).trans p1_2
      have p2_3 := (hb2.cell (p := ⟨w.heap.size, 3, none⟩) (by simp; try omega)).trans p1_3
      have p2_4 := (hb2.cell (p := ⟨w.heap.size, 4, none⟩) (by simp; try omega)).trans p1_4
      have p2_5 := (hb2.cell (p := ⟨w.heap.size, 5, none⟩) (by simp; try omega)).trans p1_5
      have p2_6 := (hb2.cell (p := ⟨w.heap.size, 6, none⟩) (by simp; try omega)).trans p1_6
      clear p1_0 p1_1 p1_2 p1_3 p1_4 p1_5 p1_6
      clear hb2
      go_wp2
      go_ret
      exact ⟨rfl, hbb2⟩
    · clear hn1
      rw [if_neg hz1]
      have G2 := Lib.hid (H2.out (z1) (by omega) (by omega))
      rw [szR_step (z1) (sizeIntSS sure)]
      have hn2 : szR (z1) (sizeIntSS sure) < 0 → szR (z1) (sizeIntSS sure) = -1 := szR_neg
      have hle2 := szR_le (z1) (sizeIntSS sure) (by omega)
      generalize szR (z1) (sizeIntSS sure) = z2 at *
      by_cases hz2 : z2 < 0
      · obtain rfl : z2 = -1 := hn2 hz2
        clear hn2
        rw [if_pos (by decide)]
        go_enter Try.func4, Try.ntmps4
        go_wp2_with fail
        refine (G0.out _ ?hb).mono ?_
        case hb => go_grown
        rintro e w1 ⟨rfl, hb1⟩
        have hbb1 : Below w.heap.size w w1 := Below.trans (by go_grown) (hb1.mono (by simp; try omega))
        have hsz1 : w.heap.size + 1 ≤ w1.heap.size := by have := hb1.size; simp at this; omega
        have p1_0 : w1.cell? ⟨w.heap.size, 0, none⟩ = some (.slice a0 db_rels.length cap0) := (hb1.cell (by simp)).trans (by go_simp)
        have p1_1 : w1.cell? ⟨w.heap.size, 1, none⟩ = some (.slice a1 db_facts.length cap1) := (hb1.cell (by simp)).trans (by go_simp)
        have p1_2 : w1.cell? ⟨w.heap.size, 2, none⟩ = some (.int .i64 qry_vars) := (hb1.cell (by simp)).trans (by go_simp)
        have p1_3 : w1.cell? ⟨w.heap.size, 3, none⟩ = some (.slice a3 qry_atoms.length cap3) := (hb1.cell (by simp)).trans (by go_simp)
        have p1_4 : w1.cell? ⟨w.heap.size, 4, none⟩ = some (.slice a4 qry_free.length cap4) := (hb1.cell (by simp)).trans (by go_simp)
        have p1_5 : w1.cell? ⟨w.heap.size, 5, none⟩ = some (.slice a5 sure.length cap5) := (hb1.cell (by simp)).trans (by go_simp)
        have p1_6 : w1.cell? ⟨w.heap.size, 6, none⟩ = some (.slice a6 open_.length cap6) := (hb1.cell (by simp)).trans (by go_simp)
        clear hb1
        go_wp2_with fail
        refine (G1.out _ ?hb).mono ?_
        case hb => exact hbb1
        rintro e w2 ⟨rfl, hb2⟩
        have hbb2 : Below w.heap.size w w2 := hbb1.trans (hb2.mono (by omega))
        have hsz2 : w.heap.size + 1 ≤ w2.heap.size := by have := hb2.size; omega
        have p2_0 := (hb2.cell (p := ⟨w.heap.size, 0, none⟩) (by simp; try omega)).trans p1_0
        have p2_1 := (hb2.cell (p := ⟨w.heap.size, 1, none⟩) (by simp; try omega)).trans p1_1
        have p2_2 := (hb2.cell (p := ⟨w.heap.size, 2, none⟩) (by simp; try omega)).trans p1_2
        have p2_3 := (hb2.cell (p := ⟨w.heap.size, 3, none⟩) (by simp; try omega)).trans p1_3
        have p2_4 := (hb2.cell (p := ⟨w.heap.size, 4, none⟩) (by simp; try omega)).trans p1_4
        have p2_5 := (hb2.cell (p := ⟨w.heap.size, 5, none⟩) (by simp; try omega)).trans p1_5
        have p2_6 := (hb2.cell (p := ⟨w.heap.size, 6, none⟩) (by simp; try omega)).trans p1_6
        clear p1_0 p1_1 p1_2 p1_3 p1_4 p1_5 p1_6
        clear hb2
        go_wp2_with fail
        refine (G2.out _ ?hb).mono ?_
        case hb => exact hbb2
        rintro e w3 ⟨rfl, hb3⟩
        have hbb3 : Below w.heap.size w w3 := hbb2.trans (hb3.mono (by omega))
        have hsz3 : w.heap.size + 1 ≤ w3.heap.size := by have := hb3.size; omega
        have p3_0 := (hb3.cell (p := ⟨w.heap.size, 0, none⟩) (by simp; try omega)).trans p2_0
        have p3_1 := (hb3.cell (p := ⟨w.heap.size, 1, none⟩) (by simp; try omega)).trans p2_1
        have p3_2 := (hb3.cell (p := ⟨w.heap.size, 2, none⟩) (by simp; try omega)).trans p2_2
        have p3_3 := (hb3.cell (p := ⟨w.heap.size, 3, none⟩) (by simp; try omega)).trans p2_3
        have p3_4 := (hb3.cell (p := ⟨w.heap.size, 4, none⟩) (by simp; try omega)).trans p2_4
        have p3_5 := (hb3.cell (p := ⟨w.heap.size, 5, none⟩) (by simp; try omega)).trans p2_5
        have p3_6 := (hb3.cell (p := ⟨w.heap.size, 6, none⟩) (by simp; try omega)).trans p2_6
        clear p2_0 p2_1 p2_2 p2_3 p2_4 p2_5 p2_6
        clear hb3
        go_wp2
        go_ret
        exact ⟨rfl, hbb3⟩
      · clear hn2
        rw [if_neg hz2]
        have G3 := Lib.hid (H3.out (z2) (by omega) (by omega))
        have hn3 : szR (z2) (sizeIntSS open_) < 0 → szR (z2) (sizeIntSS open_) = -1 := szR_neg
        have hle3 := szR_le (z2) (sizeIntSS open_) (by omega)
        generalize szR (z2) (sizeIntSS open_) = z3 at *
        by_cases hz3 : z3 < 0
        · obtain rfl : z3 = -1 := hn3 hz3
          clear hn3
          go_enter Try.func4, Try.ntmps4
          go_wp2_with fail
          refine (G0.out _ ?hb).mono ?_
          case hb => go_grown
          rintro e w1 ⟨rfl, hb1⟩
          have hbb1 : Below w.heap.size w w1 := Below.trans (by go_grown) (hb1.mono (by simp; try omega))
          have hsz1 : w.heap.size + 1 ≤ w1.heap.size := by have := hb1.size; simp at this; omega
          have p1_0 : w1.cell? ⟨w.heap.size, 0, none⟩ = some (.slice a0 db_rels.length cap0) := (hb1.cell (by simp)).trans (by go_simp)
          have p1_1 : w1.cell? ⟨w.heap.size, 1, none⟩ = some (.slice a1 db_facts.length cap1) := (hb1.cell (by simp)).trans (by go_simp)
          have p1_2 : w1.cell? ⟨w.heap.size, 2, none⟩ = some (.int .i64 qry_vars) := (hb1.cell (by simp)).trans (by go_simp)
          have p1_3 : w1.cell? ⟨w.heap.size, 3, none⟩ = some (.slice a3 qry_atoms.length cap3) := (hb1.cell (by simp)).trans (by go_simp)
          have p1_4 : w1.cell? ⟨w.heap.size, 4, none⟩ = some (.slice a4 qry_free.length cap4) := (hb1.cell (by simp)).trans (by go_simp)
          have p1_5 : w1.cell? ⟨w.heap.size, 5, none⟩ = some (.slice a5 sure.length cap5) := (hb1.cell (by simp)).trans (by go_simp)
          have p1_6 : w1.cell? ⟨w.heap.size, 6, none⟩ = some (.slice a6 open_.length cap6) := (hb1.cell (by simp)).trans (by go_simp)
          clear hb1
          go_wp2_with fail
          refine (G1.out _ ?hb).mono ?_
          case hb => exact hbb1
          rintro e w2 ⟨rfl, hb2⟩
          have hbb2 : Below w.heap.size w w2 := hbb1.trans (hb2.mono (by omega))
          have hsz2 : w.heap.size + 1 ≤ w2.heap.size := by have := hb2.size; omega
          have p2_0 := (hb2.cell (p := ⟨w.heap.size, 0, none⟩) (by simp; try omega)).trans p1_0
          have p2_1 := (hb2.cell (p := ⟨w.heap.size, 1, none⟩) (by simp; try omega)).trans p1_1
          have p2_2 := (hb2.cell (p := ⟨w.heap.size, 2, none⟩) (by simp; try omega)).trans p1_2
          have p2_3 := (hb2.cell (p := ⟨w.heap.size, 3, none⟩) (by simp; try omega)).trans p1_3
          have p2_4 := (hb2.cell (p := ⟨w.heap.size, 4, none⟩) (by simp; try omega)).trans p1_4
          have p2_5 := (hb2.cell (p := ⟨w.heap.size, 5, none⟩) (by simp; try omega)).trans p1_5
          have p2_6 := (hb2.cell (p := ⟨w.heap.size, 6, none⟩) (by simp; try omega)).trans p1_6
          clear p1_0 p1_1 p1_2 p1_3 p1_4 p1_5 p1_6
          clear hb2
          go_wp2_with fail
          refine (G2.out _ ?hb).mono ?_
          case hb => exact hbb2
          rintro e w3 ⟨rfl, hb3⟩
          have hbb3 : Below w.heap.size w w3 := hbb2.trans (hb3.mono (by omega))
          have hsz3 : w.heap.size + 1 ≤ w3.heap.size := by have := hb3.size; omega
          have p3_0 := (hb3.cell (p := ⟨w.heap.size, 0, none⟩) (by simp; try omega)).trans p2_0
          have p3_1 := (hb3.cell (p := ⟨w.heap.size, 1, none⟩) (by simp; try omega)).trans p2_1
          have p3_2 := (hb3.cell (p := ⟨w.heap.size, 2, none⟩) (by simp; try omega)).trans p2_2
          have p3_3 := (hb3.cell (p := ⟨w.heap.size, 3, none⟩) (by simp; try omega)).trans p2_3
          have p3_4 := (hb3.cell (p := ⟨w.heap.size, 4, none⟩) (by simp; try omega)).trans p2_4
          have p3_5 := (hb3.cell (p := ⟨w.heap.size, 5, none⟩) (by simp; try omega)).trans p2_5
          have p3_6 := (hb3.cell (p := ⟨w.heap.size, 6, none⟩) (by simp; try omega)).trans p2_6
          clear p2_0 p2_1 p2_2 p2_3 p2_4 p2_5 p2_6
          clear hb3
          go_wp2_with fail
          refine (G3.out _ ?hb).mono ?_
          case hb => exact hbb3
          rintro e w4 ⟨rfl, hb4⟩
          have hbb4 : Below w.heap.size w w4 := hbb3.trans (hb4.mono (by omega))
          have hsz4 : w.heap.size + 1 ≤ w4.heap.size := by have := hb4.size; omega
          have p4_0 := (hb4.cell (p := ⟨w.heap.size, 0, none⟩) (by simp; try omega)).trans p3_0
          have p4_1 := (hb4.cell (p := ⟨w.heap.size, 1, none⟩) (by simp; try omega)).trans p3_1
          have p4_2 := (hb4.cell (p := ⟨w.heap.size, 2, none⟩) (by simp; try omega)).trans p3_2
          have p4_3 := (hb4.cell (p := ⟨w.heap.size, 3, none⟩) (by simp; try omega)).trans p3_3
          have p4_4 := (hb4.cell (p := ⟨w.heap.size, 4, none⟩) (by simp; try omega)).trans p3_4
          have p4_5 := (hb4.cell (p := ⟨w.heap.size, 5, none⟩) (by simp; try omega)).trans p3_5
          have p4_6 := (hb4.cell (p := ⟨w.heap.size, 6, none⟩) (by simp; try omega)).trans p3_6
          clear p3_0 p3_1 p3_2 p3_3 p3_4 p3_5 p3_6
          clear hb4
          go_wp2
          go_ret
          exact ⟨rfl, hbb4⟩
        · clear hn3
          go_enter Try.func4, Try.ntmps4
          go_wp2_with fail
          refine (G0.out _ ?hb).mono ?_
          case hb => go_grown
          rintro e w1 ⟨rfl, hb1⟩
          have hbb1 : Below w.heap.size w w1 := Below.trans (by go_grown) (hb1.mono (by simp; try omega))
          have hsz1 : w.heap.size + 1 ≤ w1.heap.size := by have := hb1.size; simp at this; omega
          have p1_0 : w1.cell? ⟨w.heap.size, 0, none⟩ = some (.slice a0 db_rels.length cap0) := (hb1.cell (by simp)).trans (by go_simp)
          have p1_1 : w1.cell? ⟨w.heap.size, 1, none⟩ = some (.slice a1 db_facts.length cap1) := (hb1.cell (by simp)).trans (by go_simp)
          have p1_2 : w1.cell? ⟨w.heap.size, 2, none⟩ = some (.int .i64 qry_vars) := (hb1.cell (by simp)).trans (by go_simp)
          have p1_3 : w1.cell? ⟨w.heap.size, 3, none⟩ = some (.slice a3 qry_atoms.length cap3) := (hb1.cell (by simp)).trans (by go_simp)
          have p1_4 : w1.cell? ⟨w.heap.size, 4, none⟩ = some (.slice a4 qry_free.length cap4) := (hb1.cell (by simp)).trans (by go_simp)
          have p1_5 : w1.cell? ⟨w.heap.size, 5, none⟩ = some (.slice a5 sure.length cap5) := (hb1.cell (by simp)).trans (by go_simp)
          have p1_6 : w1.cell? ⟨w.heap.size, 6, none⟩ = some (.slice a6 open_.length cap6) := (hb1.cell (by simp)).trans (by go_simp)
          clear hb1
          go_wp2_with fail
          refine (G1.out _ ?hb).mono ?_
          case hb => exact hbb1
          rintro e w2 ⟨rfl, hb2⟩
          have hbb2 : Below w.heap.size w w2 := hbb1.trans (hb2.mono (by omega))
          have hsz2 : w.heap.size + 1 ≤ w2.heap.size := by have := hb2.size; omega
          have p2_0 := (hb2.cell (p := ⟨w.heap.size, 0, none⟩) (by simp; try omega)).trans p1_0
          have p2_1 := (hb2.cell (p := ⟨w.heap.size, 1, none⟩) (by simp; try omega)).trans p1_1
          have p2_2 := (hb2.cell (p := ⟨w.heap.size, 2, none⟩) (by simp; try omega)).trans p1_2
          have p2_3 := (hb2.cell (p := ⟨w.heap.size, 3, none⟩) (by simp; try omega)).trans p1_3
          have p2_4 := (hb2.cell (p := ⟨w.heap.size, 4, none⟩) (by simp; try omega)).trans p1_4
          have p2_5 := (hb2.cell (p := ⟨w.heap.size, 5, none⟩) (by simp; try omega)).trans p1_5
          have p2_6 := (hb2.cell (p := ⟨w.heap.size, 6, none⟩) (by simp; try omega)).trans p1_6
          clear p1_0 p1_1 p1_2 p1_3 p1_4 p1_5 p1_6
          clear hb2
          go_wp2_with fail
          refine (G2.out _ ?hb).mono ?_
          case hb => exact hbb2
          rintro e w3 ⟨rfl, hb3⟩
          have hbb3 : Below w.heap.size w w3 := hbb2.trans (hb3.mono (by omega))
          have hsz3 : w.heap.size + 1 ≤ w3.heap.size := by have := hb3.size; omega
          have p3_0 := (hb3.cell (p := ⟨w.heap.size, 0, none⟩) (by simp; try omega)).trans p2_0
          have p3_1 := (hb3.cell (p := ⟨w.heap.size, 1, none⟩) (by simp; try omega)).trans p2_1
          have p3_2 := (hb3.cell (p := ⟨w.heap.size, 2, none⟩) (by simp; try omega)).trans p2_2
          have p3_3 := (hb3.cell (p := ⟨w.heap.size, 3, none⟩) (by simp; try omega)).trans p2_3
          have p3_4 := (hb3.cell (p := ⟨w.heap.size, 4, none⟩) (by simp; try omega)).trans p2_4
          have p3_5 := (hb3.cell (p := ⟨w.heap.size, 5, none⟩) (by simp; try omega)).trans p2_5
          have p3_6 := (hb3.cell (p := ⟨w.heap.size, 6, none⟩) (by simp; try omega)).trans p2_6
          clear p2_0 p2_1 p2_2 p2_3 p2_4 p2_5 p2_6
          clear hb3
          go_wp2_with fail
          refine (G3.out _ ?hb).mono ?_
          case hb => exact hbb3
          rintro e w4 ⟨rfl, hb4⟩
          have hbb4 : Below w.heap.size w w4 := hbb3.trans (hb4.mono (by omega))
          have hsz4 : w.heap.size + 1 ≤ w4.heap.size := by have := hb4.size; omega
          have p4_0 := (hb4.cell (p := ⟨w.heap.size, 0, none⟩) (by simp; try omega)).trans p3_0
          have p4_1 := (hb4.cell (p := ⟨w.heap.size, 1, none⟩) (by simp; try omega)).trans p3_1
          have p4_2 := (hb4.cell (p := ⟨w.heap.size, 2, none⟩) (by simp; try omega)).trans p3_2
          have p4_3 := (hb4.cell (p := ⟨w.heap.size, 3, none⟩) (by simp; try omega)).trans p3_3
          have p4_4 := (hb4.cell (p := ⟨w.heap.size, 4, none⟩) (by simp; try omega)).trans p3_4
          have p4_5 := (hb4.cell (p := ⟨w.heap.size, 5, none⟩) (by simp; try omega)).trans p3_5
          have p4_6 := (hb4.cell (p := ⟨w.heap.size, 6, none⟩) (by simp; try omega)).trans p3_6
          clear p3_0 p3_1 p3_2 p3_3 p3_4 p3_5 p3_6
          clear hb4
          go_wp2
          go_ret
          exact ⟨rfl, hbb4⟩
set_option maxHeartbeats 1600000 in
theorem toView_c {a0 : Option Addr} {cap0 : Nat} {a1 : Option Addr} {cap1 : Nat} {a3 : Option Addr} {cap3 : Nat} {a4 : Option Addr} {cap4 : Nat} {a5 : Option Addr} {cap5 : Nat} {a6 : Option Addr} {cap6 : Nat} {x : Vew} {w : World} (hs : sizeView x ≤ 1048576) (h : At cVew w x [.slice a0 x.db.rels.length cap0, .slice a1 x.db.facts.length cap1, .int .i64 x.qry.vars, .slice a3 x.qry.atoms.length cap3, .slice a4 x.qry.free.length cap4, .slice a5 x.sure.length cap5, .slice a6 x.open_.length cap6]) :
    Calls Try.prog 6 #[.agg #[.slice a0 x.db.rels.length cap0, .slice a1 x.db.facts.length cap1, .int .i64 x.qry.vars, .slice a3 x.qry.atoms.length cap3, .slice a4 x.qry.free.length cap4, .slice a5 x.sure.length cap5, .slice a6 x.open_.length cap6]] w fun e w' => (∃ a0' cap0' a1' cap1' a3' cap3' a4' cap4' a5' cap5' a6' cap6', e = .returned (.agg #[.slice a0' x.db.rels.length cap0', .slice a1' x.db.facts.length cap1', .int .i64 x.qry.vars, .slice a3' x.qry.atoms.length cap3', .slice a4' x.qry.free.length cap4', .slice a5' x.sure.length cap5', .slice a6' x.open_.length cap6']) ∧ Own cVew w.heap.size w' x [.slice a0' x.db.rels.length cap0', .slice a1' x.db.facts.length cap1', .int .i64 x.qry.vars, .slice a3' x.qry.atoms.length cap3', .slice a4' x.qry.free.length cap4', .slice a5' x.sure.length cap5', .slice a6' x.open_.length cap6']) ∧ Below w.heap.size w w' := by
  unfold sizeView at hs
  obtain ⟨k0, k1, k2, k3⟩ := cVew_inv h
  clear h
  obtain ⟨⟨db_rels, db_facts⟩, ⟨qry_vars, qry_atoms, qry_free⟩, sure, open_⟩ := x
  simp only at *
  have H0 : Hid (∀ ww, Below w.heap.size w ww → Calls Try.prog 15 #[.agg #[.slice a0 db_rels.length cap0, .slice a1 db_facts.length cap1]] ww fun e w' => (∃ a0' cap0' a1' cap1', e = .returned (.agg #[.slice a0' db_rels.length cap0', .slice a1' db_facts.length cap1']) ∧ Own cDbs ww.heap.size w' (Dbs.mk db_rels db_facts) [.slice a0' db_rels.length cap0', .slice a1' db_facts.length cap1']) ∧ Below ww.heap.size ww w') :=
    fun ww hb => toDatabase_c (by omega) (At.below (c := cDbs) k0 hb (Nat.le_refl _))
  have H1 : Hid (∀ ww, Below w.heap.size w ww → Calls Try.prog 16 #[.agg #[.int .i64 qry_vars, .slice a3 qry_atoms.length cap3, .slice a4 qry_free.length cap4]] ww fun e w' => (∃ a3' cap3' a4' cap4', e = .returned (.agg #[.int .i64 qry_vars, .slice a3' qry_atoms.length cap3', .slice a4' qry_free.length cap4']) ∧ Own cQry ww.heap.size w' (Qry.mk qry_vars qry_atoms qry_free) [.int .i64 qry_vars, .slice a3' qry_atoms.length cap3', .slice a4' qry_free.length cap4']) ∧ Below ww.heap.size ww w') :=
    fun ww hb => toQuery_c (by omega) (At.below (c := cQry) k1 hb (Nat.le_refl _))
  have H2 : Hid (∀ ww, Below w.heap.size w ww → Calls Try.prog 17 #[.slice a5 sure.length cap5] ww fun e w' => (∃ a5' cap5', e = .returned (.slice a5' sure.length cap5') ∧ Own (cSlice (cSlice cInt)) ww.heap.size w' sure [.slice a5' sure.length cap5']) ∧ Below ww.heap.size ww w') :=
    fun ww hb => toIntSS_c (by omega) (At.below (c := (cSlice (cSlice cInt))) k2 hb (Nat.le_refl _))
  have H3 : Hid (∀ ww, Below w.heap.size w ww → Calls Try.prog 17 #[.slice a6 open_.length cap6] ww fun e w' => (∃ a6' cap6', e = .returned (.slice a6' open_.length cap6') ∧ Own (cSlice (cSlice cInt)) ww.heap.size w' open_ [.slice a6' open_.length cap6']) ∧ Below ww.heap.size ww w') :=
    fun ww hb => toIntSS_c (by omega) (At.below (c := (cSlice (cSlice cInt))) k3 hb (Nat.le_refl _))
  clear hs k0 k1 k2 k3
  go_enter Try.func6, Try.ntmps6
  go_wp2_with fail
  refine (H0.out _ ?hb).mono ?_
  case hb => go_grown
  rintro e w1 ⟨⟨a0', cap0', a1', cap1', rfl, ho0⟩, hb1⟩
  have hbb1 : Below w.heap.size w w1 := Below.trans (by go_grown) (hb1.mono (by simp; try omega))
  have hsz1 : w.heap.size + 3 ≤ w1.heap.size := by have := hb1.size; simp at this; omega
  have p1_0 : w1.cell? ⟨w.heap.size, 0, none⟩ = some (.slice a0 db_rels.length cap0) := (hb1.cell (by simp; try omega)).trans (by go_simp)
  have o1_0 : w1.cell? ⟨w.heap.size + 1 + 1, 0, none⟩ = some (.slice none 0 0) := (hb1.cell (by simp; try omega)).trans (by go_simp)
  have f1_0 : w1.frozen? ⟨w.heap.size + 1 + 1, 0, none⟩ = false := (hb1.frozen (by simp; try omega)).trans (by go_simp)
  have e1_0 : w1.cell? ⟨w.heap.size + 1, 0, none⟩ = some (.slice none 0 0) := (hb1.cell (by simp; try omega)).trans (by go_simp)
  have g1_0 : w1.frozen? ⟨w.heap.size + 1, 0, none⟩ = false := (hb1.frozen (by simp; try omega)).trans (by go_simp)
  have p1_1 : w1.cell? ⟨w.heap.size, 1, none⟩ = some (.slice a1 db_facts.length cap1) := (hb1.cell (by simp; try omega)).trans (by go_simp)
  have o1_1 : w1.cell? ⟨w.heap.size + 1 + 1, 1, none⟩ = some (.slice none 0 0) := (hb1.cell (by simp; try omega)).trans (by go_simp)
  have f1_1 : w1.frozen? ⟨w.heap.size + 1 + 1, 1, none⟩ = false := (hb1.frozen (by simp; try omega)).trans (by go_simp)
  have e1_1 : w1.cell? ⟨w.heap.size + 1, 1, none⟩ = some (.slice none 0 0) := (hb1.cell (by simp; try omega)).trans (by go_simp)
  have g1_1 : w1.frozen? ⟨w.heap.size + 1, 1, none⟩ = false := (hb1.frozen (by simp; try omega)).trans (by go_simp)
  have p1_2 : w1.cell? ⟨w.heap.size, 2, none⟩ = some (.int .i64 qry_vars) := (hb1.cell (by simp; try omega)).trans (by go_simp)
  have o1_2 : w1.cell? ⟨w.heap.size + 1 + 1, 2, none⟩ = some (.int .i64 0) := (hb1.cell (by simp; try omega)).trans (by go_simp)
  have f1_2 : w1.frozen? ⟨w.heap.size + 1 + 1, 2, none⟩ = false := (hb1.frozen (by simp; try omega)).trans (by go_simp)
  have e1_2 : w1.cell? ⟨w.heap.size + 1, 2, none⟩ = some (.int .i64 0) := (hb1.cell (by simp; try omega)).trans (by go_simp)
  have g1_2 : w1.frozen? ⟨w.heap.size + 1, 2, none⟩ = false := (hb1.frozen (by simp; try omega)).trans (by go_simp)
  have p1_3 : w1.cell? ⟨w.heap.size, 3, none⟩ = some (.slice a3 qry_atoms.length cap3) := (hb1.cell (by simp; try omega)).trans (by go_simp)
  have o1_3 : w1.cell? ⟨w.heap.size + 1 + 1, 3, none⟩ = some (.slice none 0 0) := (hb1.cell (by simp; try omega)).trans (by go_simp)
  have f1_3 : w1.frozen? ⟨w.heap.size + 1 + 1, 3, none⟩ = false := (hb1.frozen (by simp; try omega)).trans (by go_simp)
  have e1_3 : w1.cell? ⟨w.heap.size + 1, 3, none⟩ = some (.slice none 0 0) := (hb1.cell (by simp; try omega)).trans (by go_simp)
  have g1_3 : w1.frozen? ⟨w.heap.size + 1, 3, none⟩ = false := (hb1.frozen (by simp; try omega)).trans (by go_simp)
  have p1_4 : w1.cell? ⟨w.heap.size, 4, none⟩ = some (.slice a4 qry_free.length cap4) := (hb1.cell (by simp; try omega)).trans (by go_simp)
  have o1_4 : w1.cell? ⟨w.heap.size + 1 + 1, 4, none⟩ = some (.slice none 0 0) := (hb1.cell (by simp; try omega)).trans (by go_simp)
  have f1_4 : w1.frozen? ⟨w.heap.size + 1 + 1, 4, none⟩ = false := (hb1.frozen (by simp; try omega)).trans (by go_simp)
  have e1_4 : w1.cell? ⟨w.heap.size + 1, 4, none⟩ = some (.slice none 0 0) := (hb1.cell (by simp; try omega)).trans (by go_simp)
  have g1_4 : w1.frozen? ⟨w.heap.size + 1, 4, none⟩ = false := (hb1.frozen (by simp; try omega)).trans (by go_simp)
  have p1_5 : w1.cell? ⟨w.heap.size, 5, none⟩ = some (.slice a5 sure.length cap5) := (hb1.cell (by simp; try omega)).trans (by go_simp)
  have o1_5 : w1.cell? ⟨w.heap.size + 1 + 1, 5, none⟩ = some (.slice none 0 0) := (hb1.cell (by simp; try omega)).trans (by go_simp)
  have f1_5 : w1.frozen? ⟨w.heap.size + 1 + 1, 5, none⟩ = false := (hb1.frozen (by simp; try omega)).trans (by go_simp)
  have e1_5 : w1.cell? ⟨w.heap.size + 1, 5, none⟩ = some (.slice none 0 0) := (hb1.cell (by simp; try omega)).trans (by go_simp)
  have g1_5 : w1.frozen? ⟨w.heap.size + 1, 5, none⟩ = false := (hb1.frozen (by simp; try omega)).trans (by go_simp)
  have p1_6 : w1.cell? ⟨w.heap.size, 6, none⟩ = some (.slice a6 open_.length cap6) := (hb1.cell (by simp; try omega)).trans (by go_simp)
  have o1_6 : w1.cell? ⟨w.heap.size + 1 + 1, 6, none⟩ = some (.slice none 0 0) := (hb1.cell (by simp; try omega)).trans (by go_simp)
  have f1_6 : w1.frozen? ⟨w.heap.size + 1 + 1, 6, none⟩ = false := (hb1.frozen (by simp; try omega)).trans (by go_simp)
  have e1_6 : w1.cell? ⟨w.heap.size + 1, 6, none⟩ = some (.slice none 0 0) := (hb1.cell (by simp; try omega)).trans (by go_simp)
  have g1_6 : w1.frozen? ⟨w.heap.size + 1, 6, none⟩ = false := (hb1.frozen (by simp; try omega)).trans (by go_simp)
  have hR1 : w1.heap[w.heap.size + 1]? = some (.cells #[.slice none 0 0, .slice none 0 0, .int .i64 0, .slice none 0 0, .slice none 0 0, .slice none 0 0, .slice none 0 0] 43 (0, 0)) := (hb1.block _ (by simp; try omega)).trans (by rw [Go.heap_alloc_old _ _ (by simp; try omega)]; exact heap_alloc2_new _ _ _)
  have u0 : OwnIn cDbs (w.heap.size + 3) w1.heap.size w1 (Dbs.mk db_rels db_facts) _ := OwnIn.wide ho0 (by simp; try omega) (Nat.le_refl _)
  clear hb1 ho0
  go_wp2_with fail
  refine (H1.out _ ?hb).mono ?_
  case hb => exact ((hbb1).setCell (by simp; try omega) _).setCell (by simp; try omega) _
  rintro e w2 ⟨⟨a3', cap3', a4', cap4', rfl, ho1⟩, hb2⟩
  have hW : ((w1.setCell ⟨w.heap.size + 1 + 1, 0, none⟩ (.slice a0' db_rels.length cap0')).setCell ⟨w.heap.size + 1 + 1, 1, none⟩ (.slice a1' db_facts.length cap1')).heap.size = w1.heap.size := by simp [World.setCell]
  rw [hW] at ho1 hb2
  have hbb2 : Below w.heap.size w w2 := (((hbb1.setCell (p := ⟨w.heap.size + 1 + 1, 0, none⟩) (by simp; try omega) _).setCell (p := ⟨w.heap.size + 1 + 1, 1, none⟩) (by simp; try omega) _)).trans (hb2.mono (by omega))
  have hsz2 : w.heap.size + 3 ≤ w2.heap.size := by have := hb2.size; rw [hW] at this; omega
  have p2_0 := (hb2.cell (p := ⟨w.heap.size, 0, none⟩) (by simp; try omega)).trans ((World.cell?_setCell_other _ _ _ _ (by first | (simp; done) | (simp; omega))).trans ((World.cell?_setCell_other _ _ _ _ (by first | (simp; done) | (simp; omega))).trans p1_0))
  have o2_0 := (hb2.cell (p := ⟨w.heap.size + 1 + 1, 0, none⟩) (by simp; try omega)).trans ((World.cell?_setCell_other _ _ _ _ (by first | (simp; done) | (simp; omega))).trans (World.cell?_setCell_same _ _ _ o1_0))
  have f2_0 := (hb2.frozen (p := ⟨w.heap.size + 1 + 1, 0, none⟩) (by simp; try omega)).trans ((World.frozen?_setCell _ _ _ _).trans ((World.frozen?_setCell _ _ _ _).trans f1_0))
  have e2_0 := (hb2.cell (p := ⟨w.heap.size + 1, 0, none⟩) (by simp; try omega)).trans ((World.cell?_setCell_other _ _ _ _ (by first | (simp; done) | (simp; omega))).trans ((World.cell?_setCell_other _ _ _ _ (by first | (simp; done) | (simp; omega))).trans e1_0))
  have g2_0 := (hb2.frozen (p := ⟨w.heap.size + 1, 0, none⟩) (by simp; try omega)).trans ((World.frozen?_setCell _ _ _ _).trans ((World.frozen?_setCell _ _ _ _).trans g1_0))
  have p2_1 := (hb2.cell (p := ⟨w.heap.size, 1, none⟩) (by simp; try omega)).trans ((World.cell?_setCell_other _ _ _ _ (by first | (simp; done) | (simp; omega))).trans ((World.cell?_setCell_other _ _ _ _ (by first | (simp; done) | (simp; omega))).trans p1_1))
  have o2_1 := (hb2.cell (p := ⟨w.heap.size + 1 + 1, 1, none⟩) (by simp; try omega)).trans (World.cell?_setCell_same _ _ _ ((World.cell?_setCell_other _ _ _ _ (by first | (simp; done) | (simp; omega))).trans o1_1))
  have f2_1 := (hb2.frozen (p := ⟨w.heap.size + 1 + 1, 1, none⟩) (by simp; try omega)).trans ((World.frozen?_setCell _ _ _ _).trans ((World.frozen?_setCell _ _ _ _).trans f1_1))
  have e2_1 := (hb2.cell (p := ⟨w.heap.size + 1, 1, none⟩) (by simp; try omega)).trans ((World.cell?_setCell_other _ _ _ _ (by first | (simp; done) | (simp; omega))).trans ((World.cell?_setCell_other _ _ _ _ (by first | (simp; done) | (simp; omega))).trans e1_1))
  have g2_1 := (hb2.frozen (p := ⟨w.heap.size + 1, 1, none⟩) (by simp; try omega)).trans ((World.frozen?_setCell _ _ _ _).trans ((World.frozen?_setCell _ _ _ _).trans g1_1))
  have p2_2 := (hb2.cell (p := ⟨w.heap.size, 2, none⟩) (by simp; try omega)).trans ((World.cell?_setCell_other _ _ _ _ (by first | (simp; done) | (simp; omega))).trans ((World.cell?_setCell_other _ _ _ _ (by first | (simp; done) | (simp; omega))).trans p1_2))
  have o2_2 := (hb2.cell (p := ⟨w.heap.size + 1 + 1, 2, none⟩) (by simp; try omega)).trans ((World.cell?_setCell_other _ _ _ _ (by first | (simp; done) | (simp; omega))).trans ((World.cell?_setCell_other _ _ _ _ (by first | (simp; done) | (simp; omega))).trans o1_2))
  have f2_2 := (hb2.frozen (p := ⟨w.heap.size + 1 + 1, 2, none⟩) (by simp; try omega)).trans ((World.frozen?_setCell _ _ _ _).trans ((World.frozen?_setCell _ _ _ _).trans f1_2))
  have e2_2 := (hb2.cell (p := ⟨w.heap.size + 1, 2, none⟩) (by simp; try omega)).trans ((World.cell?_setCell_other _ _ _ _ (by first | (simp; done) | (simp; omega))).trans ((World.cell?_setCell_other _ _ _ _ (by first | (simp; done) | (simp; omega))).trans e1_2))
  have g2_2 := (hb2.frozen (p := ⟨w.heap.size + 1, 2, none⟩) (by simp; try omega)).trans ((World.frozen?_setCell _ _ _ _).trans ((World.frozen?_setCell _ _ _ _).trans g1_2))
  have p2_3 := (hb2.cell (p := ⟨w.heap.size, 3, none⟩) (by simp; try omega)).trans ((World.cell?_setCell_other _ _ _ _ (by first | (simp; done) | (simp; omega))).trans ((World.cell?_setCell_other _ _ _ _ (by first | (simp; done) | (simp; omega))).trans p1_3))
  have o2_3 := (hb2.cell (p := ⟨w.heap.size + 1 + 1, 3, none⟩) (by simp; try omega)).trans ((World.cell?_setCell_other _ _ _ _ (by first | (simp; done) | (simp; omega))).trans ((World.cell?_setCell_other _ _ _ _ (by first | (simp; done) | (simp; omega))).trans o1_3))
  have f2_3 := (hb2.frozen (p := ⟨w.heap.size + 1 + 1, 3, none⟩) (by simp; try omega)).trans ((World.frozen?_setCell _ _ _ _).trans ((World.frozen?_setCell _ _ _ _).trans f1_3))
  have e2_3 := (hb2.cell (p := ⟨w.heap.size + 1, 3, none⟩) (by simp; try omega)).trans ((World.cell?_setCell_other _ _ _ _ (by first | (simp; done) | (simp; omega))).trans ((World.cell?_setCell_other _ _ _ _ (by first | (simp; done) | (simp; omega))).trans e1_3))
  have g2_3 := (hb2.frozen (p := ⟨w.heap.size + 1, 3, none⟩) (by simp; try omega)).trans ((World.frozen?_setCell _ _ _ _).trans ((World.frozen?_setCell _ _ _ _).trans g1_3))
  have p2_4 := (hb2.cell (p := ⟨w.heap.size, 4, none⟩) (by simp; try omega)).trans ((World.cell?_setCell_other _ _ _ _ (by first | (simp; done) | (simp; omega))).trans ((World.cell?_setCell_other _ _ _ _ (by first | (simp; done) | (simp; omega))).trans p1_4))
  have o2_4 := (hb2.cell (p := ⟨w.heap.size + 1 + 1, 4, none⟩) (by simp; try omega)).trans ((World.cell?_setCell_other _ _ _ _ (by first | (simp; done) | (simp; omega))).trans ((World.cell?_setCell_other _ _ _ _ (by first | (simp; done) | (simp; omega))).trans o1_4))
  have f2_4 := (hb2.frozen (p := ⟨w.heap.size + 1 + 1, 4, none⟩) (by simp; try omega)).trans ((World.frozen?_setCell _ _ _ _).trans ((World.frozen?_setCell _ _ _ _).trans f1_4))
  have e2_4 := (hb2.cell (p := ⟨w.heap.size + 1, 4, none⟩) (by simp; try omega)).trans ((World.cell?_setCell_other _ _ _ _ (by first | (simp; done) | (simp; omega))).trans ((World.cell?_setCell_other _ _ _ _ (by first | (simp; done) | (simp; omega))).trans e1_4))
  have g2_4 := (hb2.frozen (p := ⟨w.heap.size + 1, 4, none⟩) (by simp; try omega)).trans ((World.frozen?_setCell _ _ _ _).trans ((World.frozen?_setCell _ _ _ _).trans g1_4))
  have p2_5 := (hb2.cell (p := ⟨w.heap.size, 5, none⟩) (by simp; try omega)).trans ((World.cell?_setCell_other _ _ _ _ (by first | (simp; done) | (simp; omega))).trans ((World.cell?_setCell_other _ _ _ _ (by first | (simp; done) | (simp; omega))).trans p1_5))
  have o2_5 := (hb2.cell (p := ⟨w.heap.size + 1 + 1, 5, none⟩) (by simp; try omega)).trans ((World.cell?_setCell_other _ _ _ _ (by first | (simp; done) | (simp; omega))).trans ((World.cell?_setCell_other _ _ _ _ (by first | (simp; done) | (simp; omega))).trans o1_5))
  have f2_5 := (hb2.frozen (p := ⟨w.heap.size + 1 + 1, 5, none⟩) (by simp; try omega)).trans ((World.frozen?_setCell _ _ _ _).trans ((World.frozen?_setCell _ _ _ _).trans f1_5))
  have e2_5 := (hb2.cell (p := ⟨w.heap.size + 1, 5, none⟩) (by simp; try omega)).trans ((World.cell?_setCell_other _ _ _ _ (by first | (simp; done) | (simp; omega))).trans ((World.cell?_setCell_other _ _ _ _ (by first | (simp; done) | (simp; omega))).trans e1_5))
  have g2_5 := (hb2.frozen (p := ⟨w.heap.size + 1, 5, none⟩) (by simp; try omega)).trans ((World.frozen?_setCell _ _ _ _).trans ((World.frozen?_setCell _ _ _ _).trans g1_5))
  have p2_6 := (hb2.cell (p := ⟨w.heap.size, 6, none⟩) (by simp; try omega)).trans ((World.cell?_setCell_other _ _ _ _ (by first | (simp; done) | (simp; omega))).trans ((World.cell?_setCell_other _ _ _ _ (by first | (simp; done) | (simp; omega))).trans p1_6))
  have o2_6 := (hb2.cell (p := ⟨w.heap.size + 1 + 1, 6, none⟩) (by simp; try omega)).trans ((World.cell?_setCell_other _ _ _ _ (by first | (simp; done) | (simp; omega))).trans ((World.cell?_setCell_other _ _ _ _ (by first | (simp; done) | (simp; omega))).trans o1_6))
  have f2_6 := (hb2.frozen (p := ⟨w.heap.size + 1 + 1, 6, none⟩) (by simp; try omega)).trans ((World.frozen?_setCell _ _ _ _).trans ((World.frozen?_setCell _ _ _ _).trans f1_6))
  have e2_6 := (hb2.cell (p := ⟨w.heap.size + 1, 6, none⟩) (by simp; try omega)).trans ((World.cell?_setCell_other _ _ _ _ (by first | (simp; done) | (simp; omega))).trans ((World.cell?_setCell_other _ _ _ _ (by first | (simp; done) | (simp; omega))).trans e1_6))
  have g2_6 := (hb2.frozen (p := ⟨w.heap.size + 1, 6, none⟩) (by simp; try omega)).trans ((World.frozen?_setCell _ _ _ _).trans ((World.frozen?_setCell _ _ _ _).trans g1_6))
  have hR2 := (hb2.block (w.heap.size + 1) (by omega)).trans ((heap_setCell_other _ _ _ _ (by simp)).trans ((heap_setCell_other _ _ _ _ (by simp)).trans hR1))
  have u0 := (OwnIn.setCell (OwnIn.setCell u0 (p := ⟨w.heap.size + 1 + 1, 0, none⟩) (by simp; try omega) (.slice a0' db_rels.length cap0')) (p := ⟨w.heap.size + 1 + 1, 1, none⟩) (by simp; try omega) (.slice a1' db_facts.length cap1')).below hb2 (by omega)
  have u1 : OwnIn cQry w1.heap.size w2.heap.size w2 (Qry.mk qry_vars qry_atoms qry_free) _ := ho1
  have hm1 := hb2.size
  rw [hW] at hm1
  clear hW p1_0 o1_0 f1_0 e1_0 g1_0 p1_1 o1_1 f1_1 e1_1 g1_1 p1_2 o1_2 f1_2 e1_2 g1_2 p1_3 o1_3 f1_3 e1_3 g1_3 p1_4 o1_4 f1_4 e1_4 g1_4 p1_5 o1_5 f1_5 e1_5 g1_5 p1_6 o1_6 f1_6 e1_6 g1_6 hR1
  clear hb2 ho1
  go_wp2_with fail
  refine (H2.out _ ?hb).mono ?_
  case hb => exact (((hbb2).setCell (by simp; try omega) _).setCell (by simp; try omega) _).setCell (by simp; try omega) _
  rintro e w3 ⟨⟨a5', cap5', rfl, ho2⟩, hb3⟩
  have hW : (((w2.setCell ⟨w.heap.size + 1 + 1, 2, none⟩ (.int .i64 qry_vars)).setCell ⟨w.heap.size + 1 + 1, 3, none⟩ (.slice a3' qry_atoms.length cap3')).setCell ⟨w.heap.size + 1 + 1, 4, none⟩ (.slice a4' qry_free.length cap4')).heap.size = w2.heap.size := by simp [World.setCell]
  rw [hW] at ho2 hb3
  have hbb3 : Below w.heap.size w w3 := ((((hbb2.setCell (p := ⟨w.heap.size + 1 + 1, 2, none⟩) (by simp; try omega) _).setCell (p := ⟨w.heap.size + 1 + 1, 3, none⟩) (by simp; try omega) _).setCell (p := ⟨w.heap.size + 1 + 1, 4, none⟩) (by simp; try omega) _)).trans (hb3.mono (by omega))
  have hsz3 : w.heap.size + 3 ≤ w3.heap.size := by have := hb3.size; rw [hW] at this; omega
  have p3_0 := (hb3.cell (p := ⟨w.heap.size, 0, none⟩) (by simp; try omega)).trans ((World.cell?_setCell_other _ _ _ _ (by first | (simp; done) | (simp; omega))).trans ((World.cell?_setCell_other _ _ _ _ (by first | (simp; done) | (simp; omega))).trans ((World.cell?_setCell_other _ _ _ _ (by first | (simp; done) | (simp; omega))).trans p2_0)))
  have o3_0 := (hb3.cell (p := ⟨w.heap.size + 1 + 1, 0, none⟩) (by simp; try omega)).trans ((World.cell?_setCell_other _ _ _ _ (by first | (simp; done) | (simp; omega))).trans ((World.cell?_setCell_other _ _ _ _ (by first | (simp; done) | (simp; omega))).trans ((World.cell?_setCell_other _ _ _ _ (by first | (simp; done) | (simp; omega))).trans o2_0)))
  have f3_0 := (hb3.frozen (p := ⟨w.heap.size + 1 + 1, 0, none⟩) (by simp; try omega)).trans ((World.frozen?_setCell _ _ _ _).trans ((World.frozen?_setCell _ _ _ _).trans ((World.frozen?_setCell _ _ _ _).trans f2_0)))
  have e3_0 := (hb3.cell (p := ⟨w.heap.size + 1, 0, none⟩) (by simp; try omega)).trans ((World.cell?_setCell_other _ _ _ _ (by first | (simp; done) | (simp; omega))).trans ((World.cell?_setCell_other _ _ _ _ (by first | (simp; done) | (simp; omega))).trans ((World.cell?_setCell_other _ _ _ _ (by first | (simp; done) | (simp; omega))).trans e2_0)))
  have g3_0 := (hb3.frozen (p := ⟨w.heap.size + 1, 0, none⟩) (by simp; try omega)).trans ((World.frozen?_setCell _ _ _ _).trans ((World.frozen?_setCell _ _ _ _).trans ((World.frozen?_setCell _ _ _ _).trans g2_0)))
  have p3_1 := (hb3.cell (p := ⟨w.heap.size, 1, none⟩) (by simp; try omega)).trans ((World.cell?_setCell_other _ _ _ _ (by first | (simp; done) | (simp; omega))).trans ((World.cell?_setCell_other _ _ _ _ (by first | (simp; done) | (simp; omega))).trans ((World.cell?_setCell_other _ _ _ _ (by first | (simp; done) | (simp; omega))).trans p2_1)))
  have o3_1 := (hb3.cell (p := ⟨w.heap.size + 1 + 1, 1, none⟩) (by simp; try omega)).trans ((World.cell?_setCell_other _ _ _ _ (by first | (simp; done) | (simp; omega))).trans ((World.cell?_setCell_other _ _ _ _ (by first | (simp; done) | (simp; omega))).trans ((World.cell?_setCell_other _ _ _ _ (by first | (simp; done) | (simp; omega))).trans o2_1)))
  have f3_1 := (hb3.frozen (p := ⟨w.heap.size + 1 + 1, 1, none⟩) (by simp; try omega)).trans ((World.frozen?_setCell _ _ _ _).trans ((World.frozen?_setCell _ _ _ _).trans ((World.frozen?_setCell _ _ _ _).trans f2_1)))
  have e3_1 := (hb3.cell (p := ⟨w.heap.size + 1, 1, none⟩) (by simp; try omega)).trans ((World.cell?_setCell_other _ _ _ _ (by first | (simp; done) | (simp; omega))).trans ((World.cell?_setCell_other _ _ _ _ (by first | (simp; done) | (simp; omega))).trans ((World.cell?_setCell_other _ _ _ _ (by first | (simp; done) | (simp; omega))).trans e2_1)))
  have g3_1 := (hb3.frozen (p := ⟨w.heap.size + 1, 1, none⟩) (by simp; try omega)).trans ((World.frozen?_setCell _ _ _ _).trans ((World.frozen?_setCell _ _ _ _).trans ((World.frozen?_setCell _ _ _ _).trans g2_1)))
  have p3_2 := (hb3.cell (p := ⟨w.heap.size, 2, none⟩) (by simp; try omega)).trans ((World.cell?_setCell_other _ _ _ _ (by first | (simp; done) | (simp; omega))).trans ((World.cell?_setCell_other _ _ _ _ (by first | (simp; done) | (simp; omega))).trans ((World.cell?_setCell_other _ _ _ _ (by first | (simp; done) | (simp; omega))).trans p2_2)))
  have o3_2 := (hb3.cell (p := ⟨w.heap.size + 1 + 1, 2, none⟩) (by simp; try omega)).trans ((World.cell?_setCell_other _ _ _ _ (by first | (simp; done) | (simp; omega))).trans ((World.cell?_setCell_other _ _ _ _ (by first | (simp; done) | (simp; omega))).trans (World.cell?_setCell_same _ _ _ o2_2)))
  have f3_2 := (hb3.frozen (p := ⟨w.heap.size + 1 + 1, 2, none⟩) (by simp; try omega)).trans ((World.frozen?_setCell _ _ _ _).trans ((World.frozen?_setCell _ _ _ _).trans ((World.frozen?_setCell _ _ _ _).trans f2_2)))
  have e3_2 := (hb3.cell (p := ⟨w.heap.size + 1, 2, none⟩) (by simp; try omega)).trans ((World.cell?_setCell_other _ _ _ _ (by first | (simp; done) | (simp; omega))).trans ((World.cell?_setCell_other _ _ _ _ (by first | (simp; done) | (simp; omega))).trans ((World.cell?_setCell_other _ _ _ _ (by first | (simp; done) | (simp; omega))).trans e2_2)))
  have g3_2 := (hb3.frozen (p := ⟨w.heap.size + 1, 2, none⟩) (by simp; try omega)).trans ((World.frozen?_setCell _ _ _ _).trans ((World.frozen?_setCell _ _ _ _).trans ((World.frozen?_setCell _ _ _ _).trans g2_2)))
  have p3_3 := (hb3.cell (p := ⟨w.heap.size, 3, none⟩) (by simp; try omega)).trans ((World.cell?_setCell_other _ _ _ _ (by first | (simp; done) | (simp; omega))).trans ((World.cell?_setCell_other _ _ _ _ (by first | (simp; done) | (simp; omega))).trans ((World.cell?_setCell_other _ _ _ _ (by first | (simp; done) | (simp; omega))).trans p2_3)))
  have o3_3 := (hb3.cell (p := ⟨w.heap.size + 1 + 1, 3, none⟩) (by simp; try omega)).trans ((World.cell?_setCell_other _ _ _ _ (by first | (simp; done) | (simp; omega))).trans (World.cell?_setCell_same _ _ _ ((World.cell?_setCell_other _ _ _ _ (by first | (simp; done) | (simp; omega))).trans o2_3)))
  have f3_3 := (hb3.frozen (p := ⟨w.heap.size + 1 + 1, 3, none⟩) (by simp; try omega)).trans ((World.frozen?_setCell _ _ _ _).trans ((World.frozen?_setCell _ _ _ _).trans ((World.frozen?_setCell _ _ _ _).trans f2_3)))
  have e3_3 := (hb3.cell (p := ⟨w.heap.size + 1, 3, none⟩) (by simp; try omega)).trans ((World.cell?_setCell_other _ _ _ _ (by first | (simp; done) | (simp; omega))).trans ((World.cell?_setCell_other _ _ _ _ (by first | (simp; done) | (simp; omega))).trans ((World.cell?_setCell_other _ _ _ _ (by first | (simp; done) | (simp; omega))).trans e2_3)))
  have g3_3 := (hb3.frozen (p := ⟨w.heap.size + 1, 3, none⟩) (by simp; try omega)).trans ((World.frozen?_setCell _ _ _ _).trans ((World.frozen?_setCell _ _ _ _).trans ((World.frozen?_setCell _ _ _ _).trans g2_3)))
  have p3_4 := (hb3.cell (p := ⟨w.heap.size, 4, none⟩) (by simp; try omega)).trans ((World.cell?_setCell_other _ _ _ _ (by first | (simp; done) | (simp; omega))).trans ((World.cell?_setCell_other _ _ _ _ (by first | (simp; done) | (simp; omega))).trans ((World.cell?_setCell_other _ _ _ _ (by first | (simp; done) | (simp; omega))).trans p2_4)))
  have o3_4 := (hb3.cell (p := ⟨w.heap.size + 1 + 1, 4, none⟩) (by simp; try omega)).trans (World.cell?_setCell_same _ _ _ ((World.cell?_setCell_other _ _ _ _ (by first | (simp; done) | (simp; omega))).trans ((World.cell?_setCell_other _ _ _ _ (by first | (simp; done) | (simp; omega))).trans o2_4)))
  have f3_4 := (hb3.frozen (p := ⟨w.heap.size + 1 + 1, 4, none⟩) (by simp; try omega)).trans ((World.frozen?_setCell _ _ _ _).trans ((World.frozen?_setCell _ _ _ _).trans ((World.frozen?_setCell _ _ _ _).trans f2_4)))
  have e3_4 := (hb3.cell (p := ⟨w.heap.size + 1, 4, none⟩) (by simp; try omega)).trans ((World.cell?_setCell_other _ _ _ _ (by first | (simp; done) | (simp; omega))).trans ((World.cell?_setCell_other _ _ _ _ (by first | (simp; done) | (simp; omega))).trans ((World.cell?_setCell_other _ _ _ _ (by first | (simp; done) | (simp; omega))).trans e2_4)))
  have g3_4 := (hb3.frozen (p := ⟨w.heap.size + 1, 4, none⟩) (by simp; try omega)).trans ((World.frozen?_setCell _ _ _ _).trans ((World.frozen?_setCell _ _ _ _).trans ((World.frozen?_setCell _ _ _ _).trans g2_4)))
  have p3_5 := (hb3.cell (p := ⟨w.heap.size, 5, none⟩) (by simp; try omega)).trans ((World.cell?_setCell_other _ _ _ _ (by first | (simp; done) | (simp; omega))).trans ((World.cell?_setCell_other _ _ _ _ (by first | (simp; done) | (simp; omega))).trans ((World.cell?_setCell_other _ _ _ _ (by first | (simp; done) | (simp; omega))).trans p2_5)))
  have o3_5 := (hb3.cell (p := ⟨w.heap.size + 1 + 1, 5, none⟩) (by simp; try omega)).trans ((World.cell?_setCell_other _ _ _ _ (by first | (simp; done) | (simp; omega))).trans ((World.cell?_setCell_other _ _ _ _ (by first | (simp; done) | (simp; omega))).trans ((World.cell?_setCell_other _ _ _ _ (by first | (simp; done) | (simp; omega))).trans o2_5)))
  have f3_5 := (hb3.frozen (p := ⟨w.heap.size + 1 + 1, 5, none⟩) (by simp; try omega)).trans ((World.frozen?_setCell _ _ _ _).trans ((World.frozen?_setCell _ _ _ _).trans ((World.frozen?_setCell _ _ _ _).trans f2_5)))
  have e3_5 := (hb3.cell (p := ⟨w.heap.size + 1, 5, none⟩) (by simp; try omega)).trans ((World.cell?_setCell_other _ _ _ _ (by first | (simp; done) | (simp; omega))).trans ((World.cell?_setCell_other _ _ _ _ (by first | (simp; done) | (simp; omega))).trans ((World.cell?_setCell_other _ _ _ _ (by first | (simp; done) | (simp; omega))).trans e2_5)))
  have g3_5 := (hb3.frozen (p := ⟨w.heap.size + 1, 5, none⟩) (by simp; try omega)).trans ((World.frozen?_setCell _ _ _ _).trans ((World.frozen?_setCell _ _ _ _).trans ((World.frozen?_setCell _ _ _ _).trans g2_5)))
  have p3_6 := (hb3.cell (p := ⟨w.heap.size, 6, none⟩) (by simp; try omega)).trans ((World.cell?_setCell_other _ _ _ _ (by first | (simp; done) | (simp; omega))).trans ((World.cell?_setCell_other _ _ _ _ (by first | (simp; done) | (simp; omega))).trans ((World.cell?_setCell_other _ _ _ _ (by first | (simp; done) | (simp; omega))).trans p2_6)))
  have o3_6 := (hb3.cell (p := ⟨w.heap.size + 1 + 1, 6, none⟩) (by simp; try omega)).trans ((World.cell?_setCell_other _ _ _ _ (by first | (simp; done) | (simp; omega))).trans ((World.cell?_setCell_other _ _ _ _ (by first | (simp; done) | (simp; omega))).trans ((World.cell?_setCell_other _ _ _ _ (by first | (simp; done) | (simp; omega))).trans o2_6)))
  have f3_6 := (hb3.frozen (p := ⟨w.heap.size + 1 + 1, 6, none⟩) (by simp; try omega)).trans ((World.frozen?_setCell _ _ _ _).trans ((World.frozen?_setCell _ _ _ _).trans ((World.frozen?_setCell _ _ _ _).trans f2_6)))
  have e3_6 := (hb3.cell (p := ⟨w.heap.size + 1, 6, none⟩) (by simp; try omega)).trans ((World.cell?_setCell_other _ _ _ _ (by first | (simp; done) | (simp; omega))).trans ((World.cell?_setCell_other _ _ _ _ (by first | (simp; done) | (simp; omega))).trans ((World.cell?_setCell_other _ _ _ _ (by first | (simp; done) | (simp; omega))).trans e2_6)))
  have g3_6 := (hb3.frozen (p := ⟨w.heap.size + 1, 6, none⟩) (by simp; try omega)).trans ((World.frozen?_setCell _ _ _ _).trans ((World.frozen?_setCell _ _ _ _).trans ((World.frozen?_setCell _ _ _ _).trans g2_6)))
  have hR3 := (hb3.block (w.heap.size + 1) (by omega)).trans ((heap_setCell_other _ _ _ _ (by simp)).trans ((heap_setCell_other _ _ _ _ (by simp)).trans ((heap_setCell_other _ _ _ _ (by simp)).trans hR2)))
  have u0 := (OwnIn.setCell (OwnIn.setCell (OwnIn.setCell u0 (p := ⟨w.heap.size + 1 + 1, 2, none⟩) (by simp; try omega) (.int .i64 qry_vars)) (p := ⟨w.heap.size + 1 + 1, 3, none⟩) (by simp; try omega) (.slice a3' qry_atoms.length cap3')) (p := ⟨w.heap.size + 1 + 1, 4, none⟩) (by simp; try omega) (.slice a4' qry_free.length cap4')).below hb3 (by have := hm1; omega)
  have u1 := (OwnIn.setCell (OwnIn.setCell (OwnIn.setCell u1 (p := ⟨w.heap.size + 1 + 1, 2, none⟩) (by simp; try omega) (.int .i64 qry_vars)) (p := ⟨w.heap.size + 1 + 1, 3, none⟩) (by simp; try omega) (.slice a3' qry_atoms.length cap3')) (p := ⟨w.heap.size + 1 + 1, 4, none⟩) (by simp; try omega) (.slice a4' qry_free.length cap4')).below hb3 (by omega)
  have u2 : OwnIn (cSlice (cSlice cInt)) w2.heap.size w3.heap.size w3 sure _ := ho2
  have hm2 := hb3.size
  rw [hW] at hm2
  clear hW p2_0 o2_0 f2_0 e2_0 g2_0 p2_1 o2_1 f2_1 e2_1 g2_1 p2_2 o2_2 f2_2 e2_2 g2_2 p2_3 o2_3 f2_3 e2_3 g2_3 p2_4 o2_4 f2_4 e2_4 g2_4 p2_5 o2_5 f2_5 e2_5 g2_5 p2_6 o2_6 f2_6 e2_6 g2_6 hR2
  clear hb3 ho2
  go_wp2_with fail
  refine (H3.out _ ?hb).mono ?_
  case hb => exact (hbb3).setCell (by simp; try omega) _
  rintro e w4 ⟨⟨a6', cap6', rfl, ho3⟩, hb4⟩
  have hW : (w3.setCell ⟨w.heap.size + 1 + 1, 5, none⟩ (.slice a5' sure.length cap5')).heap.size = w3.heap.size := by simp [World.setCell]
  rw [hW] at ho3 hb4
  have hbb4 : Below w.heap.size w w4 := ((hbb3.setCell (p := ⟨w.heap.size + 1 + 1, 5, none⟩) (by simp; try omega) _)).trans (hb4.mono (by omega))
  have hsz4 : w.heap.size + 3 ≤ w4.heap.size := by have := hb4.size; rw [hW] at this; omega
  have p4_0 := (hb4.cell (p := ⟨w.heap.size, 0, none⟩) (by simp; try omega)).trans ((World.cell?_setCell_other _ _ _ _ (by first | (simp; done) | (simp; omega))).trans p3_0)
  have o4_0 := (hb4.cell (p := ⟨w.heap.size + 1 + 1, 0, none⟩) (by simp; try omega)).trans ((World.cell?_setCell_other _ _ _ _ (by first | (simp; done) | (simp; omega))).trans o3_0)
  have f4_0 := (hb4.frozen (p := ⟨w.heap.size + 1 + 1, 0, none⟩) (by simp; try omega)).trans ((World.frozen?_setCell _ _ _ _).trans f3_0)
  have e4_0 := (hb4.cell (p := ⟨w.heap.size + 1, 0, none⟩) (by simp; try omega)).trans ((World.cell?_setCell_other _ _ _ _ (by first | (simp; done) | (simp; omega))).trans e3_0)
  have g4_0 := (hb4.frozen (p := ⟨w.heap.size + 1, 0, none⟩) (by simp; try omega)).trans ((World.frozen?_setCell _ _ _ _).trans g3_0)
  have p4_1 := (hb4.cell (p := ⟨w.heap.size, 1, none⟩) (by simp; try omega)).trans ((World.cell?_setCell_other _ _ _ _ (by first | (simp; done) | (simp; omega))).trans p3_1)
  have o4_1 := (hb4.cell (p := ⟨w.heap.size + 1 + 1, 1, none⟩) (by simp; try omega)).trans ((World.cell?_setCell_other _ _ _ _ (by first | (simp; done) | (simp; omega))).trans o3_1)
  have f4_1 := (hb4.frozen (p := ⟨w.heap.size + 1 + 1, 1, none⟩) (by simp; try omega)).trans ((World.frozen?_setCell _ _ _ _).trans f3_1)
  have e4_1 := (hb4.cell (p := ⟨w.heap.size + 1, 1, none⟩) (by simp; try omega)).trans ((World.cell?_setCell_other _ _ _ _ (by first | (simp; done) | (simp; omega))).trans e3_1)
  have g4_1 := (hb4.frozen (p := ⟨w.heap.size + 1, 1, none⟩) (by simp; try omega)).trans ((World.frozen?_setCell _ _ _ _).trans g3_1)
  have p4_2 := (hb4.cell (p := ⟨w.heap.size, 2, none⟩) (by simp; try omega)).trans ((World.cell?_setCell_other _ _ _ _ (by first | (simp; done) | (simp; omega))).trans p3_2)
  have o4_2 := (hb4.cell (p := ⟨w.heap.size + 1 + 1, 2, none⟩) (by simp; try omega)).trans ((World.cell?_setCell_other _ _ _ _ (by first | (simp; done) | (simp; omega))).trans o3_2)
  have f4_2 := (hb4.frozen (p := ⟨w.heap.size + 1 + 1, 2, none⟩) (by simp; try omega)).trans ((World.frozen?_setCell _ _ _ _).trans f3_2)
  have e4_2 := (hb4.cell (p := ⟨w.heap.size + 1, 2, none⟩) (by simp; try omega)).trans ((World.cell?_setCell_other _ _ _ _ (by first | (simp; done) | (simp; omega))).trans e3_2)
  have g4_2 := (hb4.frozen (p := ⟨w.heap.size + 1, 2, none⟩) (by simp; try omega)).trans ((World.frozen?_setCell _ _ _ _).trans g3_2)
  have p4_3 := (hb4.cell (p := ⟨w.heap.size, 3, none⟩) (by simp; try omega)).trans ((World.cell?_setCell_other _ _ _ _ (by first | (simp; done) | (simp; omega))).trans p3_3)
  have o4_3 := (hb4.cell (p := ⟨w.heap.size + 1 + 1, 3, none⟩) (by simp; try omega)).trans ((World.cell?_setCell_other _ _ _ _ (by first | (simp; done) | (simp; omega))).trans o3_3)
  have f4_3 := (hb4.frozen (p := ⟨w.heap.size + 1 + 1, 3, none⟩) (by simp; try omega)).trans ((World.frozen?_setCell _ _ _ _).trans f3_3)
  have e4_3 := (hb4.cell (p := ⟨w.heap.size + 1, 3, none⟩) (by simp; try omega)).trans ((World.cell?_setCell_other _ _ _ _ (by first | (simp; done) | (simp; omega))).trans e3_3)
  have g4_3 := (hb4.frozen (p := ⟨w.heap.size + 1, 3, none⟩) (by simp; try omega)).trans ((World.frozen?_setCell _ _ _ _).trans g3_3)
  have p4_4 := (hb4.cell (p := ⟨w.heap.size, 4, none⟩) (by simp; try omega)).trans ((World.cell?_setCell_other _ _ _ _ (by first | (simp; done) | (simp; omega))).trans p3_4)
  have o4_4 := (hb4.cell (p := ⟨w.heap.size + 1 + 1, 4, none⟩) (by simp; try omega)).trans ((World.cell?_setCell_other _ _ _ _ (by first | (simp; done) | (simp; omega))).trans o3_4)
  have f4_4 := (hb4.frozen (p := ⟨w.heap.size + 1 + 1, 4, none⟩) (by simp; try omega)).trans ((World.frozen?_setCell _ _ _ _).trans f3_4)
  have e4_4 := (hb4.cell (p := ⟨w.heap.size + 1, 4, none⟩) (by simp; try omega)).trans ((World.cell?_setCell_other _ _ _ _ (by first | (simp; done) | (simp; omega))).trans e3_4)
  have g4_4 := (hb4.frozen (p := ⟨w.heap.size + 1, 4, none⟩) (by simp; try omega)).trans ((World.frozen?_setCell _ _ _ _).trans g3_4)
  have p4_5 := (hb4.cell (p := ⟨w.heap.size, 5, none⟩) (by simp; try omega)).trans ((World.cell?_setCell_other _ _ _ _ (by first | (simp; done) | (simp; omega))).trans p3_5)
  have o4_5 := (hb4.cell (p := ⟨w.heap.size + 1 + 1, 5, none⟩) (by simp; try omega)).trans (World.cell?_setCell_same _ _ _ o3_5)
  have f4_5 := (hb4.frozen (p := ⟨w.heap.size + 1 + 1, 5, none⟩) (by simp; try omega)).trans ((World.frozen?_setCell _ _ _ _).trans f3_5)
  have e4_5 := (hb4.cell (p := ⟨w.heap.size + 1, 5, none⟩) (by simp; try omega)).trans ((World.cell?_setCell_other _ _ _ _ (by first | (simp; done) | (simp; omega))).trans e3_5)
  have g4_5 := (hb4.frozen (p := ⟨w.heap.size + 1, 5, none⟩) (by simp; try omega)).trans ((World.frozen?_setCell _ _ _ _).trans g3_5)
  have p4_6 := (hb4.cell (p := ⟨w.heap.size, 6, none⟩) (by simp; try omega)).trans ((World.cell?_setCell_other _ _ _ _ (by first | (simp; done) | (simp; omega))).trans p3_6)
  have o4_6 := (hb4.cell (p := ⟨w.heap.size + 1 + 1, 6, none⟩) (by simp; try omega)).trans ((World.cell?_setCell_other _ _ _ _ (by first | (simp; done) | (simp; omega))).trans o3_6)
  have f4_6 := (hb4.frozen (p := ⟨w.heap.size + 1 + 1, 6, none⟩) (by simp; try omega)).trans ((World.frozen?_setCell _ _ _ _).trans f3_6)
  have e4_6 := (hb4.cell (p := ⟨w.heap.size + 1, 6, none⟩) (by simp; try omega)).trans ((World.cell?_setCell_other _ _ _ _ (by first | (simp; done) | (simp; omega))).trans e3_6)
  have g4_6 := (hb4.frozen (p := ⟨w.heap.size + 1, 6, none⟩) (by simp; try omega)).trans ((World.frozen?_setCell _ _ _ _).trans g3_6)
  have hR4 := (hb4.block (w.heap.size + 1) (by omega)).trans ((heap_setCell_other _ _ _ _ (by simp)).trans hR3)
  have u0 := (OwnIn.setCell u0 (p := ⟨w.heap.size + 1 + 1, 5, none⟩) (by simp; try omega) (.slice a5' sure.length cap5')).below hb4 (by have := hm1; omega)
  have u1 := (OwnIn.setCell u1 (p := ⟨w.heap.size + 1 + 1, 5, none⟩) (by simp; try omega) (.slice a5' sure.length cap5')).below hb4 (by have := hm2; omega)
  have u2 := (OwnIn.setCell u2 (p := ⟨w.heap.size + 1 + 1, 5, none⟩) (by simp; try omega) (.slice a5' sure.length cap5')).below hb4 (by omega)
  have u3 : OwnIn (cSlice (cSlice cInt)) w3.heap.size w4.heap.size w4 open_ _ := ho3
  have hm3 := hb4.size
  rw [hW] at hm3
  clear hW p3_0 o3_0 f3_0 e3_0 g3_0 p3_1 o3_1 f3_1 e3_1 g3_1 p3_2 o3_2 f3_2 e3_2 g3_2 p3_3 o3_3 f3_3 e3_3 g3_3 p3_4 o3_4 f3_4 e3_4 g3_4 p3_5 o3_5 f3_5 e3_5 g3_5 p3_6 o3_6 f3_6 e3_6 g3_6 hR3
  clear hb4 ho3
  have U0 := Lib.hid u0
  have U1 := Lib.hid u1
  have U2 := Lib.hid u2
  have U3 := Lib.hid u3
  clear u0 u1 u2 u3
  go_wp2
  (try simp only [Exit.inBlock, Exit.then])
  refine bodyPost_ret (results_cell_row rfl _ _ (w.heap.size + 1) _ _ _ _ rfl (heap_setCell_same _ _ 6 _ _ _ (heap_setCell_same _ _ 5 _ _ _ (heap_setCell_same _ _ 4 _ _ _ (heap_setCell_same _ _ 3 _ _ _ (heap_setCell_same _ _ 2 _ _ _ (heap_setCell_same _ _ 1 _ _ _ (heap_setCell_same _ _ 0 _ _ _ ((heap_setCell_other _ _ _ _ (by simp)).trans (hR4))))))))) Try.underlying43 rfl (by kernel_rfl)) rfl ?_
  exact ⟨⟨_, _, _, _, _, _, _, _, _, _, _, _, rfl, OwnIn.own (cVew_own (x := ⟨⟨db_rels, db_facts⟩, ⟨qry_vars, qry_atoms, qry_free⟩, sure, open_⟩) (lo := w.heap.size) (hi := w4.heap.size) (((((((((U0.out).setCell (by simp; try omega) _).setCell (by simp; try omega) _).setCell (by simp; try omega) _).setCell (by simp; try omega) _).setCell (by simp; try omega) _).setCell (by simp; try omega) _).setCell (by simp; try omega) _).setCell (by simp; try omega) _) (by omega) (((((((((U1.out).setCell (by simp; try omega) _).setCell (by simp; try omega) _).setCell (by simp; try omega) _).setCell (by simp; try omega) _).setCell (by simp; try omega) _).setCell (by simp; try omega) _).setCell (by simp; try omega) _).setCell (by simp; try omega) _) (by omega) (((((((((U2.out).setCell (by simp; try omega) _).setCell (by simp; try omega) _).setCell (by simp; try omega) _).setCell (by simp; try omega) _).setCell (by simp; try omega) _).setCell (by simp; try omega) _).setCell (by simp; try omega) _).setCell (by simp; try omega) _) (by omega) (((((((((U3.out).setCell (by simp; try omega) _).setCell (by simp; try omega) _).setCell (by simp; try omega) _).setCell (by simp; try omega) _).setCell (by simp; try omega) _).setCell (by simp; try omega) _).setCell (by simp; try omega) _).setCell (by simp; try omega) _) (by omega) (by omega) (by omega) (by omega) (by omega) (by omega)) (by simp [World.setCell])⟩, ((((((((hbb4).setCell (by simp; try omega) _).setCell (by simp; try omega) _).setCell (by simp; try omega) _).setCell (by simp; try omega) _).setCell (by simp; try omega) _).setCell (by simp; try omega) _).setCell (by simp; try omega) _).setCell (by simp; try omega) _⟩
theorem eqView_c {a0 : Option Addr} {cap0 : Nat} {a1 : Option Addr} {cap1 : Nat} {a3 : Option Addr} {cap3 : Nat} {a4 : Option Addr} {cap4 : Nat} {a5 : Option Addr} {cap5 : Nat} {a6 : Option Addr} {cap6 : Nat} {a0' : Option Addr} {cap0' : Nat} {a1' : Option Addr} {cap1' : Nat} {a3' : Option Addr} {cap3' : Nat} {a4' : Option Addr} {cap4' : Nat} {a5' : Option Addr} {cap5' : Nat} {a6' : Option Addr} {cap6' : Nat} {x y : Vew} {w : World} (h : At cVew w x [.slice a0 x.db.rels.length cap0, .slice a1 x.db.facts.length cap1, .int .i64 x.qry.vars, .slice a3 x.qry.atoms.length cap3, .slice a4 x.qry.free.length cap4, .slice a5 x.sure.length cap5, .slice a6 x.open_.length cap6]) (h' : At cVew w y [.slice a0' y.db.rels.length cap0', .slice a1' y.db.facts.length cap1', .int .i64 y.qry.vars, .slice a3' y.qry.atoms.length cap3', .slice a4' y.qry.free.length cap4', .slice a5' y.sure.length cap5', .slice a6' y.open_.length cap6']) :
    Calls Try.prog 8 #[.agg #[.slice a0 x.db.rels.length cap0, .slice a1 x.db.facts.length cap1, .int .i64 x.qry.vars, .slice a3 x.qry.atoms.length cap3, .slice a4 x.qry.free.length cap4, .slice a5 x.sure.length cap5, .slice a6 x.open_.length cap6], .agg #[.slice a0' y.db.rels.length cap0', .slice a1' y.db.facts.length cap1', .int .i64 y.qry.vars, .slice a3' y.qry.atoms.length cap3', .slice a4' y.qry.free.length cap4', .slice a5' y.sure.length cap5', .slice a6' y.open_.length cap6']] w fun e w' => e = .returned (.bool (decide (x = y))) ∧ Below w.heap.size w w' := by
  obtain ⟨k0, k1, k2, k3⟩ := cVew_inv h
  obtain ⟨m0, m1, m2, m3⟩ := cVew_inv h'
  clear h h'
  obtain ⟨⟨db_rels, db_facts⟩, ⟨qry_vars, qry_atoms, qry_free⟩, sure, open_⟩ := x
  obtain ⟨⟨db_rels', db_facts'⟩, ⟨qry_vars', qry_atoms', qry_free'⟩, sure', open_'⟩ := y
  have he : decide (Vew.mk (Dbs.mk db_rels db_facts) (Qry.mk qry_vars qry_atoms qry_free) sure open_ = Vew.mk (Dbs.mk db_rels' db_facts') (Qry.mk qry_vars' qry_atoms' qry_free') sure' open_') = (decide ((Dbs.mk db_rels db_facts) = (Dbs.mk db_rels' db_facts')) && (decide ((Qry.mk qry_vars qry_atoms qry_free) = (Qry.mk qry_vars' qry_atoms' qry_free')) && (decide (sure = sure') && decide (open_ = open_')))) := by
    simp only [← Bool.decide_and]; congr 1; rw [Vew.mk.injEq]
  rw [he]
  clear he
  simp only at *
  have H0 : Hid (∀ ww, Below w.heap.size w ww → Calls Try.prog 21 #[.agg #[.slice a0 db_rels.length cap0, .slice a1 db_facts.length cap1], .agg #[.slice a0' db_rels'.length cap0', .slice a1' db_facts'.length cap1']] ww fun e w' => e = .returned (.bool (decide ((Dbs.mk db_rels db_facts) = (Dbs.mk db_rels' db_facts')))) ∧ Below ww.heap.size ww w') :=
    fun ww hb => eqDatabase_c (At.below (c := cDbs) k0 hb (Nat.le_refl _)) (At.below (c := cDbs) m0 hb (Nat.le_refl _))
  have H1 : Hid (∀ ww, Below w.heap.size w ww → Calls Try.prog 22 #[.agg #[.int .i64 qry_vars, .slice a3 qry_atoms.length cap3, .slice a4 qry_free.length cap4], .agg #[.int .i64 qry_vars', .slice a3' qry_atoms'.length cap3', .slice a4' qry_free'.length cap4']] ww fun e w' => e = .returned (.bool (decide ((Qry.mk qry_vars qry_atoms qry_free) = (Qry.mk qry_vars' qry_atoms' qry_free')))) ∧ Below ww.heap.size ww w') :=
    fun ww hb => eqQuery_c (At.below (c := cQry) k1 hb (Nat.le_refl _)) (At.below (c := cQry) m1 hb (Nat.le_refl _))
  have H2 : Hid (∀ ww, Below w.heap.size w ww → Calls Try.prog 23 #[.slice a5 sure.length cap5, .slice a5' sure'.length cap5'] ww fun e w' => e = .returned (.bool (decide (sure = sure'))) ∧ Below ww.heap.size ww w') :=
    fun ww hb => eqIntSS_c (At.below (c := (cSlice (cSlice cInt))) k2 hb (Nat.le_refl _)) (At.below (c := (cSlice (cSlice cInt))) m2 hb (Nat.le_refl _))
  have H3 : Hid (∀ ww, Below w.heap.size w ww → Calls Try.prog 23 #[.slice a6 open_.length cap6, .slice a6' open_'.length cap6'] ww fun e w' => e = .returned (.bool (decide (open_ = open_'))) ∧ Below ww.heap.size ww w') :=
    fun ww hb => eqIntSS_c (At.below (c := (cSlice (cSlice cInt))) k3 hb (Nat.le_refl _)) (At.below (c := (cSlice (cSlice cInt))) m3 hb (Nat.le_refl _))
  clear k0 m0 k1 m1 k2 m2 k3 m3
  generalize decide ((Dbs.mk db_rels db_facts) = (Dbs.mk db_rels' db_facts')) = z0 at *
  cases z0 with
  | true =>
    rw [Bool.true_and]
    generalize decide ((Qry.mk qry_vars qry_atoms qry_free) = (Qry.mk qry_vars' qry_atoms' qry_free')) = z1 at *
    cases z1 with
    | true =>
      rw [Bool.true_and]
      generalize decide (sure = sure') = z2 at *
      cases z2 with
      | true =>
        rw [Bool.true_and]
        generalize decide (open_ = open_') = z3 at *
        cases z3 with
        | true =>
          go_enter Try.func8, Try.ntmps8
          go_wp2_with fail
          refine (H0.out _ ?hb).mono ?_
          case hb => go_grown
          rintro e w1 ⟨rfl, hb1⟩
          have hbb1 : Below w.heap.size w w1 := Below.trans (by go_grown) (hb1.mono (by simp; try omega))
          have hsz1 : w.heap.size + 2 ≤ w1.heap.size := by have := hb1.size; simp at this; omega
          have p1_0 : w1.cell? ⟨w.heap.size, 0, none⟩ = some (.slice a0 db_rels.length cap0) := (hb1.cell (by simp; try omega)).trans (by go_simp)
          have r1_0 : w1.cell? ⟨w.heap.size + 1, 0, none⟩ = some (.slice a0' db_rels'.length cap0') := (hb1.cell (by simp; try omega)).trans (by go_simp)
          have p1_1 : w1.cell? ⟨w.heap.size, 1, none⟩ = some (.slice a1 db_facts.length cap1) := (hb1.cell (by simp; try omega)).trans (by go_simp)
          have r1_1 : w1.cell? ⟨w.heap.size + 1, 1, none⟩ = some (.slice a1' db_facts'.length cap1') := (hb1.cell (by simp; try omega)).trans (by go_simp)
          have p1_2 : w1.cell? ⟨w.heap.size, 2, none⟩ = some (.int .i64 qry_vars) := (hb1.cell (by simp; try omega)).trans (by go_simp)
          have r1_2 : w1.cell? ⟨w.heap.size + 1, 2, none⟩ = some (.int .i64 qry_vars') := (hb1.cell (by simp; try omega)).trans (by go_simp)
          have p1_3 : w1.cell? ⟨w.heap.size, 3, none⟩ = some (.slice a3 qry_atoms.length cap3) := (hb1.cell (by simp; try omega)).trans (by go_simp)
          have r1_3 : w1.cell? ⟨w.heap.size + 1, 3, none⟩ = some (.slice a3' qry_atoms'.length cap3') := (hb1.cell (by simp; try omega)).trans (by go_simp)
          have p1_4 : w1.cell? ⟨w.heap.size, 4, none⟩ = some (.slice a4 qry_free.length cap4) := (hb1.cell (by simp; try omega)).trans (by go_simp)
          have r1_4 : w1.cell? ⟨w.heap.size + 1, 4, none⟩ = some (.slice a4' qry_free'.length cap4') := (hb1.cell (by simp; try omega)).trans (by go_simp)
          have p1_5 : w1.cell? ⟨w.heap.size, 5, none⟩ = some (.slice a5 sure.length cap5) := (hb1.cell (by simp; try omega)).trans (by go_simp)
          have r1_5 : w1.cell? ⟨w.heap.size + 1, 5, none⟩ = some (.slice a5' sure'.length cap5') := (hb1.cell (by simp; try omega)).trans (by go_simp)
          have p1_6 : w1.cell? ⟨w.heap.size, 6, none⟩ = some (.slice a6 open_.length cap6) := (hb1.cell (by simp; try omega)).trans (by go_simp)
          have r1_6 : w1.cell? ⟨w.heap.size + 1, 6, none⟩ = some (.slice a6' open_'.length cap6') := (hb1.cell (by simp; try omega)).trans (by go_simp)
          clear hb1
          go_wp2_with fail
          refine (H1.out _ ?hb).mono ?_
          case hb => exact hbb1
          rintro e w2 ⟨rfl, hb2⟩
          have hbb2 : Below w.heap.size w w2 := hbb1.trans (hb2.mono (by omega))
          have hsz2 : w.heap.size + 2 ≤ w2.heap.size := by have := hb2.size; omega
          have p2_0 := (hb2.cell (p := ⟨w.heap.size, 0, none⟩) (by simp; try omega)).trans p1_0
          have r2_0 := (hb2.cell (p := ⟨w.heap.size + 1, 0, none⟩) (by simp; try omega)).trans r1_0
          have p2_1 := (hb2.cell (p := ⟨w.heap.size, 1, none⟩) (by simp; try omega)).trans p1_1
          have r2_1 := (hb2.cell (p := ⟨w.heap.size + 1, 1, none⟩) (by simp; try omega)).trans r1_1
          have p2_2 := (hb2.cell (p := ⟨w.heap.size, 2, none⟩) (by simp; try omega)).trans p1_2
          have r2_2 := (hb2.cell (p := ⟨w.heap.size + 1, 2, none⟩) (by simp; try omega)).trans r1_2
          have p2_3 := (hb2.cell (p := ⟨w.heap.size, 3, none⟩) (by simp; try omega)).trans p1_3
          have r2_3 := (hb2.cell (p := ⟨w.heap.size + 1, 3, none⟩) (by simp; try omega)).trans r1_3
          have p2_4 := (hb2.cell (p := ⟨w.heap.size, 4, none⟩) (by simp; try omega)).trans p1_4
          have r2_4 := (hb2.cell (p := ⟨w.heap.size + 1, 4, none⟩) (by simp; try omega)).trans r1_4
          have p2_5 := (hb2.cell (p := ⟨w.heap.size, 5, none⟩) (by simp; try omega)).trans p1_5
          have r2_5 := (hb2.cell (p := ⟨w.heap.size + 1, 5, none⟩) (by simp; try omega)).trans r1_5
          have p2_6 := (hb2.cell (p := ⟨w.heap.size, 6, none⟩) (by simp; try omega)).trans p1_6
          have r2_6 := (hb2.cell (p := ⟨w.heap.size + 1, 6, none⟩) (by simp; try omega)).trans r1_6
          clear p1_0 r1_0 p1_1 r1_1 p1_2 r1_2 p1_3 r1_3 p1_4 r1_4 p1_5 r1_5 p1_6 r1_6
          clear hb2
          go_wp2_with fail
          refine (H2.out _ ?hb).mono ?_
          case hb => exact hbb2
          rintro e w3 ⟨rfl, hb3⟩
          have hbb3 : Below w.heap.size w w3 := hbb2.trans (hb3.mono (by omega))
          have hsz3 : w.heap.size + 2 ≤ w3.heap.size := by have := hb3.size; omega
          have p3_0 := (hb3.cell (p := ⟨w.heap.size, 0, none⟩) (by simp; try omega)).trans p2_0
          have r3_0 := (hb3.cell (p := ⟨w.heap.size + 1, 0, none⟩) (by simp; try omega)).trans r2_0
          have p3_1 := (hb3.cell (p := ⟨w.heap.size, 1, none⟩) (by simp; try omega)).trans p2_1
          have r3_1 := (hb3.cell (p := ⟨w.heap.size + 1, 1, none⟩) (by simp; try omega)).trans r2_1
          have p3_2 := (hb3.cell (p := ⟨w.heap.size, 2, none⟩) (by simp; try omega)).trans p2_2
          have r3_2 := (hb3.cell (p := ⟨w.heap.size + 1, 2, none⟩) (by simp; try omega)).trans r2_2
          have p3_3 := (hb3.cell (p := ⟨w.heap.size, 3, none⟩) (by simp; try omega)).trans p2_3
          have r3_3 := (hb3.cell (p := ⟨w.heap.size + 1, 3, none⟩) (by simp; try omega)).trans r2_3
          have p3_4 := (hb3.cell (p := ⟨w.heap.size, 4, none⟩) (by simp; try omega)).trans p2_4
          have r3_4 := (hb3.cell (p := ⟨w.heap.size + 1, 4, none⟩) (by simp; try omega)).trans r2_4
          have p3_5 := (hb3.cell (p := ⟨w.heap.size, 5, none⟩) (by simp; try omega)).trans p2_5
          have r3_5 := (hb3.cell (p := ⟨w.heap.size + 1, 5, none⟩) (by simp; try omega)).trans r2_5
          have p3_6 := (hb3.cell (p := ⟨w.heap.size, 6, none⟩) (by simp; try omega)).trans p2_6
          have r3_6 := (hb3.cell (p := ⟨w.heap.size + 1, 6, none⟩) (by simp; try omega)).trans r2_6
          clear p2_0 r2_0 p2_1 r2_1 p2_2 r2_2 p2_3 r2_3 p2_4 r2_4 p2_5 r2_5 p2_6 r2_6
          clear hb3
          go_wp2_with fail
          refine (H3.out _ ?hb).mono ?_
          case hb => exact hbb3
          rintro e w4 ⟨rfl, hb4⟩
          have hbb4 : Below w.heap.size w w4 := hbb3.trans (hb4.mono (by omega))
          have hsz4 : w.heap.size + 2 ≤ w4.heap.size := by have := hb4.size; omega
          have p4_0 := (hb4.cell (p := ⟨w.heap.size, 0, none⟩) (by simp; try omega)).trans p3_0
          have r4_0 := (hb4.cell (p := ⟨w.heap.size + 1, 0, none⟩) (by simp; try omega)).trans r3_0
          have p4_1 := (hb4.cell (p := ⟨w.heap.size, 1, none⟩) (by simp; try omega)).trans p3_1
          have r4_1 := (hb4.cell (p := ⟨w.heap.size + 1, 1, none⟩) (by simp; try omega)).trans r3_1
          have p4_2 := (hb4.cell (p := ⟨w.heap.size, 2, none⟩) (by simp; try omega)).trans p3_2
          have r4_2 := (hb4.cell (p := ⟨w.heap.size + 1, 2, none⟩) (by simp; try omega)).trans r3_2
          have p4_3 := (hb4.cell (p := ⟨w.heap.size, 3, none⟩) (by simp; try omega)).trans p3_3
          have r4_3 := (hb4.cell (p := ⟨w.heap.size + 1, 3, none⟩) (by simp; try omega)).trans r3_3
          have p4_4 := (hb4.cell (p := ⟨w.heap.size, 4, none⟩) (by simp; try omega)).trans p3_4
          have r4_4 := (hb4.cell (p := ⟨w.heap.size + 1, 4, none⟩) (by simp; try omega)).trans r3_4
          have p4_5 := (hb4.cell (p := ⟨w.heap.size, 5, none⟩) (by simp; try omega)).trans p3_5
          have r4_5 := (hb4.cell (p := ⟨w.heap.size + 1, 5, none⟩) (by simp; try omega)).trans r3_5
          have p4_6 := (hb4.cell (p := ⟨w.heap.size, 6, none⟩) (by simp; try omega)).trans p3_6
          have r4_6 := (hb4.cell (p := ⟨w.heap.size + 1, 6, none⟩) (by simp; try omega)).trans r3_6
          clear p3_0 r3_0 p3_1 r3_1 p3_2 r3_2 p3_3 r3_3 p3_4 r3_4 p3_5 r3_5 p3_6 r3_6
          clear hb4
          go_wp2
          go_ret
          exact ⟨by simp, hbb4⟩
        | false =>
          go_enter Try.func8, Try.ntmps8
          go_wp2_with fail
          refine (H0.out _ ?hb).mono ?_
          case hb => go_grown
          rintro e w1 ⟨rfl, hb1⟩
          have hbb1 : Below w.heap.size w w1 := Below.trans (by go_grown) (hb1.mono (by simp; try omega))
          have hsz1 : w.heap.size + 2 ≤ w1.heap.size := by have := hb1.size; simp at this; omega
          have p1_0 : w1.cell? ⟨w.heap.size, 0, none⟩ = some (.slice a0 db_rels.length cap0) := (hb1.cell (by simp; try omega)).trans (by go_simp)
          have r1_0 : w1.cell? ⟨w.heap.size + 1, 0, none⟩ = some (.slice a0' db_rels'.length cap0') := (hb1.cell (by simp; try omega)).trans (by go_simp)
          have p1_1 : w1.cell? ⟨w.heap.size, 1, none⟩ = some (.slice a1 db_facts.length cap1) := (hb1.cell (by simp; try omega)).trans (by go_simp)
          have r1_1 : w1.cell? ⟨w.heap.size + 1, 1, none⟩ = some (.slice a1' db_facts'.length cap1') := (hb1.cell (by simp; try omega)).trans (by go_simp)
          have p1_2 : w1.cell? ⟨w.heap.size, 2, none⟩ = some (.int .i64 qry_vars) := (hb1.cell (by simp; try omega)).trans (by go_simp)
          have r1_2 : w1.cell? ⟨w.heap.size + 1, 2, none⟩ = some (.int .i64 qry_vars') := (hb1.cell (by simp; try omega)).trans (by go_simp)
          have p1_3 : w1.cell? ⟨w.heap.size, 3, none⟩ = some (.slice a3 qry_atoms.length cap3) := (hb1.cell (by simp; try omega)).trans (by go_simp)
          have r1_3 : w1.cell? ⟨w.heap.size + 1, 3, none⟩ = some (.slice a3' qry_atoms'.length cap3') := (hb1.cell (by simp; try omega)).trans (by go_simp)
          have p1_4 : w1.cell? ⟨w.heap.size, 4, none⟩ = some (.slice a4 qry_free.length cap4) := (hb1.cell (by simp; try omega)).trans (by go_simp)
          have r1_4 : w1.cell? ⟨w.heap.size + 1, 4, none⟩ = some (.slice a4' qry_free'.length cap4') := (hb1.cell (by simp; try omega)).trans (by go_simp)
          have p1_5 : w1.cell? ⟨w.heap.size, 5, none⟩ = some (.slice a5 sure.length cap5) := (hb1.cell (by simp; try omega)).trans (by go_simp)
          have r1_5 : w1.cell? ⟨w.heap.size + 1, 5, none⟩ = some (.slice a5' sure'.length cap5') := (hb1.cell (by simp; try omega)).trans (by go_simp)
          have p1_6 : w1.cell? ⟨w.heap.size, 6, none⟩ = some (.slice a6 open_.length cap6) := (hb1.cell (by simp; try omega)).trans (by go_simp)
          have r1_6 : w1.cell? ⟨w.heap.size + 1, 6, none⟩ = some (.slice a6' open_'.length cap6') := (hb1.cell (by simp; try omega)).trans (by go_simp)
          clear hb1
          go_wp2_with fail
          refine (H1.out _ ?hb).mono ?_
          case hb => exact hbb1
          rintro e w2 ⟨rfl, hb2⟩
          have hbb2 : Below w.heap.size w w2 := hbb1.trans (hb2.mono (by omega))
          have hsz2 : w.heap.size + 2 ≤ w2.heap.size := by have := hb2.size; omega
          have p2_0 := (hb2.cell (p := ⟨w.heap.size, 0, none⟩) (by simp; try omega)).trans p1_0
          have r2_0 := (hb2.cell (p := ⟨w.heap.size + 1, 0, none⟩) (by simp; try omega)).trans r1_0
          have p2_1 := (hb2.cell (p := ⟨w.heap.size, 1, none⟩) (by simp; try omega)).trans p1_1
          have r2_1 := (hb2.cell (p := ⟨w.heap.size + 1, 1, none⟩) (by simp; try omega)).trans r1_1
          have p2_2 := (hb2.cell (p := ⟨w.heap.size, 2, none⟩) (by simp; try omega)).trans p1_2
          have r2_2 := (hb2.cell (p := ⟨w.heap.size + 1, 2, none⟩) (by simp; try omega)).trans r1_2
          have p2_3 := (hb2.cell (p := ⟨w.heap.size, 3, none⟩) (by simp; try omega)).trans p1_3
          have r2_3 := (hb2.cell (p := ⟨w.heap.size + 1, 3, none⟩) (by simp; try omega)).trans r1_3
          have p2_4 := (hb2.cell (p := ⟨w.heap.size, 4, none⟩) (by simp; try omega)).trans p1_4
          have r2_4 := (hb2.cell (p := ⟨w.heap.size + 1, 4, none⟩) (by simp; try omega)).trans r1_4
          have p2_5 := (hb2.cell (p := ⟨w.heap.size, 5, none⟩) (by simp; try omega)).trans p1_5
          have r2_5 := (hb2.cell (p := ⟨w.heap.size + 1, 5, none⟩) (by simp; try omega)).trans r1_5
          have p2_6 := (hb2.cell (p := ⟨w.heap.size, 6, none⟩) (by simp; try omega)).trans p1_6
          have r2_6 := (hb2.cell (p := ⟨w.heap.size + 1, 6, none⟩) (by simp; try omega)).trans r1_6
          clear p1_0 r1_0 p1_1 r1_1 p1_2 r1_2 p1_3 r1_3 p1_4 r1_4 p1_5 r1_5 p1_6 r1_6
          clear hb2
          go_wp2_with fail
          refine (H2.out _ ?hb).mono ?_
          case hb => exact hbb2
          rintro e w3 ⟨rfl, hb3⟩
          have hbb3 : Below w.heap.size w w3 := hbb2.trans (hb3.mono (by omega))
          have hsz3 : w.heap.size + 2 ≤ w3.heap.size := by have := hb3.size; omega
          have p3_0 := (hb3.cell (p := ⟨w.heap.size, 0, none⟩) (by simp; try omega)).trans p2_0
          have r3_0 := (hb3.cell (p := ⟨w.heap.size + 1, 0, none⟩) (by simp; try omega)).trans r2_0
          have p3_1 := (hb3.cell (p := ⟨w.heap.size, 1, none⟩) (by simp; try omega)).trans p2_1
          have r3_1 := (hb3.cell (p := ⟨w.heap.size + 1, 1, none⟩) (by simp; try omega)).trans r2_1
          have p3_2 := (hb3.cell (p := ⟨w.heap.size, 2, none⟩) (by simp; try omega)).trans p2_2
          have r3_2 := (hb3.cell (p := ⟨w.heap.size + 1, 2, none⟩) (by simp; try omega)).trans r2_2
          have p3_3 := (hb3.cell (p := ⟨w.heap.size, 3, none⟩) (by simp; try omega)).trans p2_3
          have r3_3 := (hb3.cell (p := ⟨w.heap.size + 1, 3, none⟩) (by simp; try omega)).trans r2_3
          have p3_4 := (hb3.cell (p := ⟨w.heap.size, 4, none⟩) (by simp; try omega)).trans p2_4
          have r3_4 := (hb3.cell (p := ⟨w.heap.size + 1, 4, none⟩) (by simp; try omega)).trans r2_4
          have p3_5 := (hb3.cell (p := ⟨w.heap.size, 5, none⟩) (by simp; try omega)).trans p2_5
          have r3_5 := (hb3.cell (p := ⟨w.heap.size + 1, 5, none⟩) (by simp; try omega)).trans r2_5
          have p3_6 := (hb3.cell (p := ⟨w.heap.size, 6, none⟩) (by simp; try omega)).trans p2_6
          have r3_6 := (hb3.cell (p := ⟨w.heap.size + 1, 6, none⟩) (by simp; try omega)).trans r2_6
          clear p2_0 r2_0 p2_1 r2_1 p2_2 r2_2 p2_3 r2_3 p2_4 r2_4 p2_5 r2_5 p2_6 r2_6
          clear hb3
          go_wp2_with fail
          refine (H3.out _ ?hb).mono ?_
          case hb => exact hbb3
          rintro e w4 ⟨rfl, hb4⟩
          have hbb4 : Below w.heap.size w w4 := hbb3.trans (hb4.mono (by omega))
          have hsz4 : w.heap.size + 2 ≤ w4.heap.size := by have := hb4.size; omega
          have p4_0 := (hb4.cell (p := ⟨w.heap.size, 0, none⟩) (by simp; try omega)).trans p3_0
          have r4_0 := (hb4.cell (p := ⟨w.heap.size + 1, 0, none⟩) (by simp; try omega)).trans r3_0
          have p4_1 := (hb4.cell (p := ⟨w.heap.size, 1, none⟩) (by simp; try omega)).trans p3_1
          have r4_1 := (hb4.cell (p := ⟨w.heap.size + 1, 1, none⟩) (by simp; try omega)).trans r3_1
          have p4_2 := (hb4.cell (p := ⟨w.heap.size, 2, none⟩) (by simp; try omega)).trans p3_2
          have r4_2 := (hb4.cell (p := ⟨w.heap.size + 1, 2, none⟩) (by simp; try omega)).trans r3_2
          have p4_3 := (hb4.cell (p := ⟨w.heap.size, 3, none⟩) (by simp; try omega)).trans p3_3
          have r4_3 := (hb4.cell (p := ⟨w.heap.size + 1, 3, none⟩) (by simp; try omega)).trans r3_3
          have p4_4 := (hb4.cell (p := ⟨w.heap.size, 4, none⟩) (by simp; try omega)).trans p3_4
          have r4_4 := (hb4.cell (p := ⟨w.heap.size + 1, 4, none⟩) (by simp; try omega)).trans r3_4
          have p4_5 := (hb4.cell (p := ⟨w.heap.size, 5, none⟩) (by simp; try omega)).trans p3_5
          have r4_5 := (hb4.cell (p := ⟨w.heap.size + 1, 5, none⟩) (by simp; try omega)).trans r3_5
          have p4_6 := (hb4.cell (p := ⟨w.heap.size, 6, none⟩) (by simp; try omega)).trans p3_6
          have r4_6 := (hb4.cell (p := ⟨w.heap.size + 1, 6, none⟩) (by simp; try omega)).trans r3_6
          clear p3_0 r3_0 p3_1 r3_1 p3_2 r3_2 p3_3 r3_3 p3_4 r3_4 p3_5 r3_5 p3_6 r3_6
          clear hb4
          go_wp2
          go_ret
          exact ⟨by simp, hbb4⟩
      | false =>
        rw [Bool.false_and]
        go_enter Try.func8, Try.ntmps8
        go_wp2_with fail
        refine (H0.out _ ?hb).mono ?_
        case hb => go_grown
        rintro e w1 ⟨rfl, hb1⟩
        have hbb1 : Below w.heap.size w w1 := Below.trans (by go_grown) (hb1.mono (by simp; try omega))
        have hsz1 : w.heap.size + 2 ≤ w1.heap.size := by have := hb1.size; simp at this; omega
        have p1_0 : w1.cell? ⟨w.heap.size, 0, none⟩ = some (.slice a0 db_rels.length cap0) := (hb1.cell (by simp; try omega)).trans (by go_simp)
        have r1_0 : w1.cell? ⟨w.heap.size + 1, 0, none⟩ = some (.slice a0' db_rels'.length cap0') := (hb1.cell (by simp; try omega)).trans (by go_simp)
        have p1_1 : w1.cell? ⟨w.heap.size, 1, none⟩ = some (.slice a1 db_facts.length cap1) := (hb1.cell (by simp; try omega)).trans (by go_simp)
        have r1_1 : w1.cell? ⟨w.heap.size + 1, 1, none⟩ = some (.slice a1' db_facts'.length cap1') := (hb1.cell (by simp; try omega)).trans (by go_simp)
        have p1_2 : w1.cell? ⟨w.heap.size, 2, none⟩ = some (.int .i64 qry_vars) := (hb1.cell (by simp; try omega)).trans (by go_simp)
        have r1_2 : w1.cell? ⟨w.heap.size + 1, 2, none⟩ = some (.int .i64 qry_vars') := (hb1.cell (by simp; try omega)).trans (by go_simp)
        have p1_3 : w1.cell? ⟨w.heap.size, 3, none⟩ = some (.slice a3 qry_atoms.length cap3) := (hb1.cell (by simp; try omega)).trans (by go_simp)
        have r1_3 : w1.cell? ⟨w.heap.size + 1, 3, none⟩ = some (.slice a3' qry_atoms'.length cap3') := (hb1.cell (by simp; try omega)).trans (by go_simp)
        have p1_4 : w1.cell? ⟨w.heap.size, 4, none⟩ = some (.slice a4 qry_free.length cap4) := (hb1.cell (by simp; try omega)).trans (by go_simp)
        have r1_4 : w1.cell? ⟨w.heap.size + 1, 4, none⟩ = some (.slice a4' qry_free'.length cap4') := (hb1.cell (by simp; try omega)).trans (by go_simp)
        have p1_5 : w1.cell? ⟨w.heap.size, 5, none⟩ = some (.slice a5 sure.length cap5) := (hb1.cell (by simp; try omega)).trans (by go_simp)
        have r1_5 : w1.cell? ⟨w.heap.size + 1, 5, none⟩ = some (.slice a5' sure'.length cap5') := (hb1.cell (by simp; try omega)).trans (by go_simp)
        have p1_6 : w1.cell? ⟨w.heap.size, 6, none⟩ = some (.slice a6 open_.length cap6) := (hb1.cell (by simp; try omega)).trans (by go_simp)
        have r1_6 : w1.cell? ⟨w.heap.size + 1, 6, none⟩ = some (.slice a6' open_'.length cap6') := (hb1.cell (by simp; try omega)).trans (by go_simp)
        clear hb1
        go_wp2_with fail
        refine (H1.out _ ?hb).mono ?_
        case hb => exact hbb1
        rintro e w2 ⟨rfl, hb2⟩
        have hbb2 : Below w.heap.size w w2 := hbb1.trans (hb2.mono (by omega))
        have hsz2 : w.heap.size + 2 ≤ w2.heap.size := by have := hb2.size; omega
        have p2_0 := (hb2.cell (p := ⟨w.heap.size, 0, none⟩) (by simp; try omega)).trans p1_0
        have r2_0 := (hb2.cell (p := ⟨w.heap.size + 1, 0, none⟩) (by simp; try omega)).trans r1_0
        have p2_1 := (hb2.cell (p := ⟨w.heap.size, 1, none⟩) (by simp; try omega)).trans p1_1
        have r2_1 := (hb2.cell (p := ⟨w.heap.size + 1, 1, none⟩) (by simp; try omega)).trans r1_1
        have p2_2 := (hb2.cell (p := ⟨w.heap.size, 2, none⟩) (by simp; try omega)).trans p1_2
        have r2_2 := (hb2.cell (p := ⟨w.heap.size + 1, 2, none⟩) (by simp; try omega)).trans r1_2
        have p2_3 := (hb2.cell (p := ⟨w.heap.size, 3, none⟩) (by simp; try omega)).trans p1_3
        have r2_3 := (hb2.cell (p := ⟨w.heap.size + 1, 3, none⟩) (by simp; try omega)).trans r1_3
        have p2_4 := (hb2.cell (p := ⟨w.heap.size, 4, none⟩) (by simp; try omega)).trans p1_4
        have r2_4 := (hb2.cell (p := ⟨w.heap.size + 1, 4, none⟩) (by simp; try omega)).trans r1_4
        have p2_5 := (hb2.cell (p := ⟨w.heap.size, 5, none⟩) (by simp; try omega)).trans p1_5
        have r2_5 := (hb2.cell (p := ⟨w.heap.size + 1, 5, none⟩) (by simp; try omega)).trans r1_5
        have p2_6 := (hb2.cell (p := ⟨w.heap.size, 6, none⟩) (by simp; try omega)).trans p1_6
        have r2_6 := (hb2.cell (p := ⟨w.heap.size + 1, 6, none⟩) (by simp; try omega)).trans r1_6
        clear p1_0 r1_0 p1_1 r1_1 p1_2 r1_2 p1_3 r1_3 p1_4 r1_4 p1_5 r1_5 p1_6 r1_6
        clear hb2
        go_wp2_with fail
        refine (H2.out _ ?hb).mono ?_
        case hb => exact hbb2
        rintro e w3 ⟨rfl, hb3⟩
        have hbb3 : Below w.heap.size w w3 := hbb2.trans (hb3.mono (by omega))
        have hsz3 : w.heap.size + 2 ≤ w3.heap.size := by have := hb3.size; omega
        have p3_0 := (hb3.cell (p := ⟨w.heap.size, 0, none⟩) (by simp; try omega)).trans p2_0
        have r3_0 := (hb3.cell (p := ⟨w.heap.size + 1, 0, none⟩) (by simp; try omega)).trans r2_0
        have p3_1 := (hb3.cell (p := ⟨w.heap.size, 1, none⟩) (by simp; try omega)).trans p2_1
        have r3_1 := (hb3.cell (p := ⟨w.heap.size + 1, 1, none⟩) (by simp; try omega)).trans r2_1
        have p3_2 := (hb3.cell (p := ⟨w.heap.size, 2, none⟩) (by simp; try omega)).trans p2_2
        have r3_2 := (hb3.cell (p := ⟨w.heap.size + 1, 2, none⟩) (by simp; try omega)).trans r2_2
        have p3_3 := (hb3.cell (p := ⟨w.heap.size, 3, none⟩) (by simp; try omega)).trans p2_3
        have r3_3 := (hb3.cell (p := ⟨w.heap.size + 1, 3, none⟩) (by simp; try omega)).trans r2_3
        have p3_4 := (hb3.cell (p := ⟨w.heap.size, 4, none⟩) (by simp; try omega)).trans p2_4
        have r3_4 := (hb3.cell (p := ⟨w.heap.size + 1, 4, none⟩) (by simp; try omega)).trans r2_4
        have p3_5 := (hb3.cell (p := ⟨w.heap.size, 5, none⟩) (by simp; try omega)).trans p2_5
        have r3_5 := (hb3.cell (p := ⟨w.heap.size + 1, 5, none⟩) (by simp; try omega)).trans r2_5
        have p3_6 := (hb3.cell (p := ⟨w.heap.size, 6, none⟩) (by simp; try omega)).trans p2_6
        have r3_6 := (hb3.cell (p := ⟨w.heap.size + 1, 6, none⟩) (by simp; try omega)).trans r2_6
        clear p2_0 r2_0 p2_1 r2_1 p2_2 r2_2 p2_3 r2_3 p2_4 r2_4 p2_5 r2_5 p2_6 r2_6
        clear hb3
        go_wp2
        go_ret
        exact ⟨by simp, hbb3⟩
    | false =>
      rw [Bool.false_and]
      go_enter Try.func8, Try.ntmps8
      go_wp2_with fail
      refine (H0.out _ ?hb).mono ?_
      case hb => go_grown
      rintro e w1 ⟨rfl, hb1⟩
      have hbb1 : Below w.heap.size w w1 := Below.trans (by go_grown) (hb1.mono (by simp; try omega))
      have hsz1 : w.heap.size + 2 ≤ w1.heap.size := by have := hb1.size; simp at this; omega
      have p1_0 : w1.cell? ⟨w.heap.size, 0, none⟩ = some (.slice a0 db_rels.length cap0) := (hb1.cell (by simp; try omega)).trans (by go_simp)
      have r1_0 : w1.cell? ⟨w.heap.size + 1, 0, none⟩ = some (.slice a0' db_rels'.length cap0') := (hb1.cell (by simp; try omega)).trans (by go_simp)
      have p1_1 : w1.cell? ⟨w.heap.size, 1, none⟩ = some (.slice a1 db_facts.length cap1) := (hb1.cell (by simp; try omega)).trans (by go_simp)
      have r1_1 : w1.cell? ⟨w.heap.size + 1, 1, none⟩ = some (.slice a1' db_facts'.length cap1') := (hb1.cell (by simp; try omega)).trans (by go_simp)
      have p1_2 : w1.cell? ⟨w.heap.size, 2, none⟩ = some (.int .i64 qry_vars) := (hb1.cell (by simp; try omega)).trans (by go_simp)
      have r1_2 : w1.cell? ⟨w.heap.size + 1, 2, none⟩ = some (.int .i64 qry_vars') := (hb1.cell (by simp; try omega)).trans (by go_simp)
      have p1_3 : w1.cell? ⟨w.heap.size, 3, none⟩ = some (.slice a3 qry_atoms.length cap3) := (hb1.cell (by simp; try omega)).trans (by go_simp)
      have r1_3 : w1.cell? ⟨w.heap.size + 1, 3, none⟩ = some (.slice a3' qry_atoms'.length cap3') := (hb1.cell (by simp; try omega)).trans (by go_simp)
      have p1_4 : w1.cell? ⟨w.heap.size, 4, none⟩ = some (.slice a4 qry_free.length cap4) := (hb1.cell (by simp; try omega)).trans (by go_simp)
      have r1_4 : w1.cell? ⟨w.heap.size + 1, 4, none⟩ = some (.slice a4' qry_free'.length cap4') := (hb1.cell (by simp; try omega)).trans (by go_simp)
      have p1_5 : w1.cell? ⟨w.heap.size, 5, none⟩ = some (.slice a5 sure.length cap5) := (hb1.cell (by simp; try omega)).trans (by go_simp)
      have r1_5 : w1.cell? ⟨w.heap.size + 1, 5, none⟩ = some (.slice a5' sure'.length cap5') := (hb1.cell (by simp; try omega)).trans (by go_simp)
      have p1_6 : w1.cell? ⟨w.heap.size, 6, none⟩ = some (.slice a6 open_.length cap6) := (hb1.cell (by simp; try omega)).trans (by go_simp)
      have r1_6 : w1.cell? ⟨w.heap.size + 1, 6, none⟩ = some (.slice a6' open_'.length cap6') := (hb1.cell (by simp; try omega)).trans (by go_simp)
      clear hb1
      go_wp2_with fail
      refine (H1.out _ ?hb).mono ?_
      case hb => exact hbb1
      rintro e w2 ⟨rfl, hb2⟩
      have hbb2 : Below w.heap.size w w2 := hbb1.trans (hb2.mono (by omega))
      have hsz2 : w.heap.size + 2 ≤ w2.heap.size := by have := hb2.size; omega
      have p2_0 := (hb2.cell (p := ⟨w.heap.size, 0, none⟩) (by simp; try omega)).trans p1_0
      have r2_0 := (hb2.cell (p := ⟨w.heap.size + 1, 0, none⟩) (by simp; try omega)).trans r1_0
      have p2_1 := (hb2.cell (p := ⟨w.heap.size, 1, none⟩) (by simp; try omega)).trans p1_1
      have r2_1 := (hb2.cell (p := ⟨w.heap.size + 1, 1, none⟩) (by simp; try omega)).trans r1_1
      have p2_2 := (hb2.cell (p := ⟨w.heap.size, 2, none⟩) (by simp; try omega)).trans p1_2
      have r2_2 := (hb2.cell (p := ⟨w.heap.size + 1, 2, none⟩) (by simp; try omega)).trans r1_2
      have p2_3 := (hb2.cell (p := ⟨w.heap.size, 3, none⟩) (by simp; try omega)).trans p1_3
      have r2_3 := (hb2.cell (p := ⟨w.heap.size + 1, 3, none⟩) (by simp; try omega)).trans r1_3
      have p2_4 := (hb2.cell (p := ⟨w.heap.size, 4, none⟩) (by simp; try omega)).trans p1_4
      have r2_4 := (hb2.cell (p := ⟨w.heap.size + 1, 4, none⟩) (by simp; try omega)).trans r1_4
      have p2_5 := (hb2.cell (p := ⟨w.heap.size, 5, none⟩) (by simp; try omega)).trans p1_5
      have r2_5 := (hb2.cell (p := ⟨w.heap.size + 1, 5, none⟩) (by simp; try omega)).trans r1_5
      have p2_6 := (hb2.cell (p := ⟨w.heap.size, 6, none⟩) (by simp; try omega)).trans p1_6
      have r2_6 := (hb2.cell (p := ⟨w.heap.size + 1, 6, none⟩) (by simp; try omega)).trans r1_6
      clear p1_0 r1_0 p1_1 r1_1 p1_2 r1_2 p1_3 r1_3 p1_4 r1_4 p1_5 r1_5 p1_6 r1_6
      clear hb2
      go_wp2
      go_ret
      exact ⟨by simp, hbb2⟩
  | false =>
    rw [Bool.false_and]
    go_enter Try.func8, Try.ntmps8
    go_wp2_with fail
    refine (H0.out _ ?hb).mono ?_
    case hb => go_grown
    rintro e w1 ⟨rfl, hb1⟩
    have hbb1 : Below w.heap.size w w1 := Below.trans (by go_grown) (hb1.mono (by simp; try omega))
    have hsz1 : w.heap.size + 2 ≤ w1.heap.size := by have := hb1.size; simp at this; omega
    have p1_0 : w1.cell? ⟨w.heap.size, 0, none⟩ = some (.slice a0 db_rels.length cap0) := (hb1.cell (by simp; try omega)).trans (by go_simp)
    have r1_0 : w1.cell? ⟨w.heap.size + 1, 0, none⟩ = some (.slice a0' db_rels'.length cap0') := (hb1.cell (by simp; try omega)).trans (by go_simp)
    have p1_1 : w1.cell? ⟨w.heap.size, 1, none⟩ = some (.slice a1 db_facts.length cap1) := (hb1.cell (by simp; try omega)).trans (by go_simp)
    have r1_1 : w1.cell? ⟨w.heap.size + 1, 1, none⟩ = some (.slice a1' db_facts'.length cap1') := (hb1.cell (by simp; try omega)).trans (by go_simp)
    have p1_2 : w1.cell? ⟨w.heap.size, 2, none⟩ = some (.int .i64 qry_vars) := (hb1.cell (by simp; try omega)).trans (by go_simp)
    have r1_2 : w1.cell? ⟨w.heap.size + 1, 2, none⟩ = some (.int .i64 qry_vars') := (hb1.cell (by simp; try omega)).trans (by go_simp)
    have p1_3 : w1.cell? ⟨w.heap.size, 3, none⟩ = some (.slice a3 qry_atoms.length cap3) := (hb1.cell (by simp; try omega)).trans (by go_simp)
    have r1_3 : w1.cell? ⟨w.heap.size + 1, 3, none⟩ = some (.slice a3' qry_atoms'.length cap3') := (hb1.cell (by simp; try omega)).trans (by go_simp)
    have p1_4 : w1.cell? ⟨w.heap.size, 4, none⟩ = some (.slice a4 qry_free.length cap4) := (hb1.cell (by simp; try omega)).trans (by go_simp)
    have r1_4 : w1.cell? ⟨w.heap.size + 1, 4, none⟩ = some (.slice a4' qry_free'.length cap4') := (hb1.cell (by simp; try omega)).trans (by go_simp)
    have p1_5 : w1.cell? ⟨w.heap.size, 5, none⟩ = some (.slice a5 sure.length cap5) := (hb1.cell (by simp; try omega)).trans (by go_simp)
    have r1_5 : w1.cell? ⟨w.heap.size + 1, 5, none⟩ = some (.slice a5' sure'.length cap5') := (hb1.cell (by simp; try omega)).trans (by go_simp)
    have p1_6 : w1.cell? ⟨w.heap.size, 6, none⟩ = some (.slice a6 open_.length cap6) := (hb1.cell (by simp; try omega)).trans (by go_simp)
    have r1_6 : w1.cell? ⟨w.heap.size + 1, 6, none⟩ = some (.slice a6' open_'.length cap6') := (hb1.cell (by simp; try omega)).trans (by go_simp)
    clear hb1
    go_wp2
    go_ret
    exact ⟨by simp, hbb1⟩
end Go.Proofs.Ytpcjhnbifgjleaa

