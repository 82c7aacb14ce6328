/- Structs: readings, the laws' helpers on them (size, copy, equality). -/
import Derived.Test.YtmofmepbekffiaaTyE
namespace Go.Proofs.Ytmofmepbekffiaa
open Go.RowKit
set_option linter.unusedVariables false
set_option maxRecDepth 100000

/-- A denial constraint. -/
structure Dcn where
  r1 : Int
  r2 : Int
  j1 : Int
  j2 : Int
  c1 : Int
  c2 : Int
  cmp : Int
deriving DecidableEq
def cDcn : Cod Dcn := cMap (fun x => (x.r1, (x.r2, (x.j1, (x.j2, (x.c1, (x.c2, x.cmp))))))) (cPair cInt (cPair cInt (cPair cInt (cPair cInt (cPair cInt (cPair cInt cInt))))))
theorem cDcn_fields {B : Nat} {w : World} {x : Dcn} {cs : List Value} (h : cDcn.ok B w x cs) : cs = [.int .i64 x.r1, .int .i64 x.r2, .int .i64 x.j1, .int .i64 x.j2, .int .i64 x.c1, .int .i64 x.c2, .int .i64 x.cmp] ∧ inR x.r1 ∧ inR x.r2 ∧ inR x.j1 ∧ inR x.j2 ∧ inR x.c1 ∧ inR x.c2 ∧ inR x.cmp := by
  obtain ⟨_, _, rfl, h0, _, _, rfl, h1, _, _, rfl, h2, _, _, rfl, h3, _, _, rfl, h4, _, _, rfl, h5, h6⟩ := h
  obtain ⟨rfl, g0⟩ := h0
  obtain ⟨rfl, g1⟩ := h1
  obtain ⟨rfl, g2⟩ := h2
  obtain ⟨rfl, g3⟩ := h3
  obtain ⟨rfl, g4⟩ := h4
  obtain ⟨rfl, g5⟩ := h5
  obtain ⟨rfl, g6⟩ := h6
  exact ⟨rfl, g0, g1, g2, g3, g4, g5, g6⟩
theorem cDcn_open {B : Nat} {w : World} {x : Dcn} {cs : List Value} (h : cDcn.ok B w x cs) : cs = [.int .i64 x.r1, .int .i64 x.r2, .int .i64 x.j1, .int .i64 x.j2, .int .i64 x.c1, .int .i64 x.c2, .int .i64 x.cmp] ∧ cDcn.ok B w x [.int .i64 x.r1, .int .i64 x.r2, .int .i64 x.j1, .int .i64 x.j2, .int .i64 x.c1, .int .i64 x.c2, .int .i64 x.cmp] := by
  have h0 := h
  obtain ⟨rfl, _⟩ := cDcn_fields h
  exact ⟨rfl, h0⟩
theorem cDcn_inv {B : Nat} {w : World} {x : Dcn} {v0 v1 v2 v3 v4 v5 v6 : Value} (h : cDcn.ok B w x [v0, v1, v2, v3, v4, v5, v6]) : inR x.r1 ∧ inR x.r2 ∧ inR x.j1 ∧ inR x.j2 ∧ inR x.c1 ∧ inR x.c2 ∧ inR x.cmp := by
  obtain ⟨e, g0, g1, g2, g3, g4, g5, g6⟩ := cDcn_fields h
  simp only [List.cons.injEq, and_true] at e
  obtain ⟨rfl, rfl, rfl, rfl, rfl, rfl, rfl⟩ := e
  exact ⟨g0, g1, g2, g3, g4, g5, g6⟩
theorem cDcn_mk {B : Nat} {w : World} {x : Dcn} (g0 : inR x.r1) (g1 : inR x.r2) (g2 : inR x.j1) (g3 : inR x.j2) (g4 : inR x.c1) (g5 : inR x.c2) (g6 : inR x.cmp) : cDcn.ok B w x [.int .i64 x.r1, .int .i64 x.r2, .int .i64 x.j1, .int .i64 x.j2, .int .i64 x.c1, .int .i64 x.c2, .int .i64 x.cmp] := ⟨[_], _, rfl, ⟨rfl, g0⟩, ⟨[_], _, rfl, ⟨rfl, g1⟩, ⟨[_], _, rfl, ⟨rfl, g2⟩, ⟨[_], _, rfl, ⟨rfl, g3⟩, ⟨[_], _, rfl, ⟨rfl, g4⟩, ⟨[_], _, rfl, ⟨rfl, g5⟩, ⟨rfl, g6⟩⟩⟩⟩⟩⟩⟩
theorem cDcn_own {lo hi  : Nat} {w : World} {x : Dcn} (g0 : inR x.r1) (g1 : inR x.r2) (g2 : inR x.j1) (g3 : inR x.j2) (g4 : inR x.c1) (g5 : inR x.c2) (g6 : inR x.cmp) (q : lo ≤ hi) : OwnIn cDcn lo hi w x [.int .i64 x.r1, .int .i64 x.r2, .int .i64 x.j1, .int .i64 x.j2, .int .i64 x.c1, .int .i64 x.c2, .int .i64 x.cmp] := (OwnIn.pair (OwnIn.int lo lo _ g0) (OwnIn.pair (OwnIn.int lo lo _ g1) (OwnIn.pair (OwnIn.int lo lo _ g2) (OwnIn.pair (OwnIn.int lo lo _ g3) (OwnIn.pair (OwnIn.int lo lo _ g4) (OwnIn.pair (OwnIn.int lo lo _ g5) (OwnIn.int lo hi _ g6) (by omega) (by omega)) (by omega) (by omega)) (by omega) (by omega)) (by omega) (by omega)) (by omega) (by omega)) (by omega) (by omega))
/-- An edge: two vertices. -/
structure Edg where
  a : Int
  b : Int
deriving DecidableEq
def cEdg : Cod Edg := cMap (fun x => (x.a, x.b)) (cPair cInt cInt)
theorem cEdg_fields {B : Nat} {w : World} {x : Edg} {cs : List Value} (h : cEdg.ok B w x cs) : cs = [.int .i64 x.a, .int .i64 x.b] ∧ inR x.a ∧ inR x.b := by
  obtain ⟨_, _, rfl, h0, h1⟩ := h
  obtain ⟨rfl, g0⟩ := h0
  obtain ⟨rfl, g1⟩ := h1
  exact ⟨rfl, g0, g1⟩
theorem cEdg_open {B : Nat} {w : World} {x : Edg} {cs : List Value} (h : cEdg.ok B w x cs) : cs = [.int .i64 x.a, .int .i64 x.b] ∧ cEdg.ok B w x [.int .i64 x.a, .int .i64 x.b] := by
  have h0 := h
  obtain ⟨rfl, _⟩ := cEdg_fields h
  exact ⟨rfl, h0⟩
theorem cEdg_inv {B : Nat} {w : World} {x : Edg} {v0 v1 : Value} (h : cEdg.ok B w x [v0, v1]) : inR x.a ∧ inR x.b := by
  obtain ⟨e, g0, g1⟩ := cEdg_fields h
  simp only [List.cons.injEq, and_true] at e
  obtain ⟨rfl, rfl⟩ := e
  exact ⟨g0, g1⟩
theorem cEdg_mk {B : Nat} {w : World} {x : Edg} (g0 : inR x.a) (g1 : inR x.b) : cEdg.ok B w x [.int .i64 x.a, .int .i64 x.b] := ⟨[_], _, rfl, ⟨rfl, g0⟩, ⟨rfl, g1⟩⟩
theorem cEdg_own {lo hi  : Nat} {w : World} {x : Edg} (g0 : inR x.a) (g1 : inR x.b) (q : lo ≤ hi) : OwnIn cEdg lo hi w x [.int .i64 x.a, .int .i64 x.b] := (OwnIn.pair (OwnIn.int lo lo _ g0) (OwnIn.int lo hi _ g1) (by omega) (by omega))
theorem toConflictEdge_c {x : Edg} {w : World} (h : At cEdg w x [.int .i64 x.a, .int .i64 x.b]) :
    Calls Try.prog 103 #[.agg #[.int .i64 x.a, .int .i64 x.b]] w fun e w' => (e = .returned (.agg #[.int .i64 x.a, .int .i64 x.b]) ∧ Own cEdg w.heap.size w' x [.int .i64 x.a, .int .i64 x.b]) ∧ Below w.heap.size w w' := by
  obtain ⟨g0, g1⟩ := cEdg_inv h
  have Ho : Hid (∀ w' : World, Own cEdg w.heap.size w' x [.int .i64 x.a, .int .i64 x.b]) := fun w' => OwnIn.flat (cEdg_own (lo := w.heap.size) (hi := w.heap.size) (w := w') (x := x) g0 g1 (Nat.le_refl _))
  clear h g0 g1
  obtain ⟨a, b⟩ := x
  simp only at *
  go_enter Try.func103, Try.ntmps103
  go_wp2
  go_returns
  refine ⟨⟨?_, Ho.out _⟩, ?_⟩
  · simp
  · go_grown
theorem eqConflictEdge_c {x y : Edg} {w : World} (h : At cEdg w x [.int .i64 x.a, .int .i64 x.b]) (h' : At cEdg w y [.int .i64 y.a, .int .i64 y.b]) :
    Calls Try.prog 104 #[.agg #[.int .i64 x.a, .int .i64 x.b], .agg #[.int .i64 y.a, .int .i64 y.b]] w fun e w' => e = .returned (.bool (decide (x = y))) ∧ Below w.heap.size w w' := by
  clear h h'
  obtain ⟨a, b⟩ := x
  obtain ⟨a', b'⟩ := y
  have he : decide (Edg.mk a b = Edg.mk a' b') = (decide (a = a') && decide (b = b')) := by
    simp only [← Bool.decide_and]; congr 1; rw [Edg.mk.injEq]
  rw [he]
  clear he
  simp only at *
  by_cases hr0 : a = a'
  · subst hr0
    rw [decide_eq_true rfl, Bool.true_and]
    by_cases hr1 : b = b'
    · subst hr1
      rw [decide_eq_true rfl]
      go_enter Try.func104, Try.ntmps104
      go_wp2
      go_ret
      exact ⟨by simp, by go_grown⟩
    · have hn1 : (b != b') = true := by simp [hr1]
      rw [decide_eq_false hr1]
      go_enter Try.func104, Try.ntmps104
      go_wp2
      go_ret
      exact ⟨by simp, by go_grown⟩
  · have hn0 : (a != a') = true := by simp [hr0]
    rw [decide_eq_false hr0, Bool.false_and]
    go_enter Try.func104, Try.ntmps104
    go_wp2
    go_ret
    exact ⟨by simp, by go_grown⟩
/-- An atom: its relation's place, its terms. -/
structure Atm where
  rel : Int
  terms : List Int
deriving DecidableEq
def cAtm : Cod Atm := cMap (fun x => (x.rel, x.terms)) (cPair cInt (cSlice cInt))
theorem cAtm_fields {B : Nat} {w : World} {x : Atm} {cs : List Value} (h : cAtm.ok B w x cs) : ∃ a1 cap1, cs = [.int .i64 x.rel, .slice a1 x.terms.length cap1] ∧ (cSlice cInt).ok B w x.terms [.slice a1 x.terms.length cap1] ∧ inR x.rel := by
  obtain ⟨_, _, rfl, h0, h1⟩ := h
  obtain ⟨rfl, g0⟩ := h0
  have k1 := h1
  obtain ⟨a1, cap1, rfl, _⟩ := k1
  exact ⟨a1, cap1, rfl, h1, g0⟩
theorem cAtm_open {B : Nat} {w : World} {x : Atm} {cs : List Value} (h : cAtm.ok B w x cs) : ∃ a1 cap1, cs = [.int .i64 x.rel, .slice a1 x.terms.length cap1] ∧ cAtm.ok B w x [.int .i64 x.rel, .slice a1 x.terms.length cap1] := by
  have h0 := h
  obtain ⟨a1, cap1, rfl, _⟩ := cAtm_fields h
  exact ⟨a1, cap1, rfl, h0⟩
theorem cAtm_inv {B : Nat} {w : World} {x : Atm} {v0 v1 : Value} (h : cAtm.ok B w x [v0, v1]) : (cSlice cInt).ok B w x.terms [v1] ∧ inR x.rel := by
  obtain ⟨a1, cap1, e, h1, g0⟩ := cAtm_fields h
  simp only [List.cons.injEq, and_true] at e
  obtain ⟨rfl, rfl⟩ := e
  exact ⟨h1, g0⟩
theorem cAtm_mk {B : Nat} {w : World} {x : Atm} {v1 : Value} (h1 : (cSlice cInt).ok B w x.terms [v1]) (g0 : inR x.rel) : cAtm.ok B w x [.int .i64 x.rel, v1] := ⟨[_], _, rfl, ⟨rfl, g0⟩, h1⟩
theorem cAtm_own {lo hi lo1 hi1 : Nat} {w : World} {x : Atm} {v1 : Value} (h1 : OwnIn (cSlice cInt) lo1 hi1 w x.terms [v1]) (l1 : lo1 ≤ hi1) (g0 : inR x.rel) (q1 : lo ≤ lo1) (q : hi1 ≤ hi) : OwnIn cAtm lo hi w x [.int .i64 x.rel, v1] := (OwnIn.pair (OwnIn.int lo lo _ g0) (h1.wide (lo' := lo) (hi' := hi) (by omega) (by omega)) (by omega) (by omega))
/-- Its size: its leaves behind slices. -/
def sizeAtom (x : Atm) : Nat := x.terms.length
theorem szAtom_c {a1 : Option Addr} {cap1 : Nat} {x : Atm} {left : Int} {w : World} (hl : 0 ≤ left) (hl2 : left ≤ 1048576) (h : At cAtm w x [.int .i64 x.rel, .slice a1 x.terms.length cap1]) :
    Calls Try.prog 109 #[.agg #[.int .i64 x.rel, .slice a1 x.terms.length cap1], .int .i64 left] w fun e w' => e = .returned (.int .i64 (szR left (sizeAtom x))) ∧ Below w.heap.size w w' := by
  obtain ⟨k1, _⟩ := cAtm_inv h
  unfold sizeAtom
  clear h
  obtain ⟨rel, terms⟩ := x
  simp only at *
  have H1 : Hid (∀ q : Int, 0 ≤ q → q ≤ 1048576 → ∀ ww, Below w.heap.size w ww → Calls Try.prog 63 #[.slice a1 terms.length cap1, .int .i64 q] ww fun e w' => e = .returned (.int .i64 (szR q (terms.length))) ∧ Below ww.heap.size ww w') :=
    fun q h0 h1 ww hb => szIntS_c h0 h1 (At.below (c := (cSlice cInt)) k1 hb (Nat.le_refl _))
  clear k1
  have G1 := Lib.hid (H1.out (left) (by omega) (by omega))
  have hn1 : szR (left) (terms.length) < 0 → szR (left) (terms.length) = -1 := szR_neg
  have hle1 := szR_le (left) (terms.length) (by omega)
  generalize szR (left) (terms.length) = z1 at *
  by_cases hz1 : z1 < 0
  · obtain rfl : z1 = -1 := hn1 hz1
    clear hn1
    go_enter Try.func109, Try.ntmps109
    go_wp2_with fail
    refine (G1.out _ ?hb).mono ?_
    case hb => go_grown
    rintro e w1 ⟨rfl, hb1⟩
    have hbb1 : Below w.heap.size w w1 := Below.trans (by go_grown) (hb1.mono (by simp; try omega))
    have hsz1 : w.heap.size + 1 ≤ w1.heap.size := by have := hb1.size; simp at this; omega
    have p1_0 : w1.cell? ⟨w.heap.size, 0, none⟩ = some (.int .i64 rel) := (hb1.cell (by simp)).trans (by go_simp)
    have p1_1 : w1.cell? ⟨w.heap.size, 1, none⟩ = some (.slice a1 terms.length cap1) := (hb1.cell (by simp)).trans (by go_simp)
    clear hb1
    go_wp2
    go_ret
    exact ⟨rfl, hbb1⟩
  · clear hn1
    go_enter Try.func109, Try.ntmps109
    go_wp2_with fail
    refine (G1.out _ ?hb).mono ?_
    case hb => go_grown
    rintro e w1 ⟨rfl, hb1⟩
    have hbb1 : Below w.heap.size w w1 := Below.trans (by go_grown) (hb1.mono (by simp; try omega))
    have hsz1 : w.heap.size + 1 ≤ w1.heap.size := by have := hb1.size; simp at this; omega
    have p1_0 : w1.cell? ⟨w.heap.size, 0, none⟩ = some (.int .i64 rel) := (hb1.cell (by simp)).trans (by go_simp)
    have p1_1 : w1.cell? ⟨w.heap.size, 1, none⟩ = some (.slice a1 terms.length cap1) := (hb1.cell (by simp)).trans (by go_simp)
    clear hb1
    go_wp2
    go_ret
    exact ⟨rfl, hbb1⟩
set_option maxHeartbeats 800000 in
theorem toAtom_c {a1 : Option Addr} {cap1 : Nat} {x : Atm} {w : World} (hs : sizeAtom x ≤ 1048576) (h : At cAtm w x [.int .i64 x.rel, .slice a1 x.terms.length cap1]) :
    Calls Try.prog 111 #[.agg #[.int .i64 x.rel, .slice a1 x.terms.length cap1]] w fun e w' => (∃ a1' cap1', e = .returned (.agg #[.int .i64 x.rel, .slice a1' x.terms.length cap1']) ∧ Own cAtm w.heap.size w' x [.int .i64 x.rel, .slice a1' x.terms.length cap1']) ∧ Below w.heap.size w w' := by
  unfold sizeAtom at hs
  obtain ⟨k1, g0⟩ := cAtm_inv h
  have G0 := Lib.hid g0
  clear g0
  clear h
  obtain ⟨rel, terms⟩ := x
  simp only at *
  have H1 : Hid (∀ ww, Below w.heap.size w ww → Calls Try.prog 29 #[.slice a1 terms.length cap1] ww fun e w' => (∃ a' cap', e = .returned (.slice a' terms.length cap') ∧ Own (cSlice cInt) ww.heap.size w' terms [.slice a' terms.length cap']) ∧ Below ww.heap.size ww w') :=
    fun ww hb => toIntS_c (by omega) (At.below (c := (cSlice cInt)) k1 hb (Nat.le_refl _))
  clear hs k1
  go_enter Try.func111, Try.ntmps111
  go_wp2_with fail
  refine (H1.out _ ?hb).mono ?_
  case hb => go_grown
  rintro e w1 ⟨⟨a1', cap1', rfl, ho1⟩, hb1⟩
  have hbb1 : Below w.heap.size w w1 := Below.trans (by go_grown) (hb1.mono (by simp; try omega))
  have hsz1 : w.heap.size + 3 ≤ w1.heap.size := by have := hb1.size; simp at this; omega
  have p1_0 : w1.cell? ⟨w.heap.size, 0, none⟩ = some (.int .i64 rel) := (hb1.cell (by simp; try omega)).trans (by go_simp)
  have o1_0 : w1.cell? ⟨w.heap.size + 1 + 1, 0, none⟩ = some (.int .i64 rel) := (hb1.cell (by simp; try omega)).trans (by go_simp)
  have f1_0 : w1.frozen? ⟨w.heap.size + 1 + 1, 0, none⟩ = false := (hb1.frozen (by simp; try omega)).trans (by go_simp)
  have e1_0 : w1.cell? ⟨w.heap.size + 1, 0, none⟩ = some (.int .i64 0) := (hb1.cell (by simp; try omega)).trans (by go_simp)
  have g1_0 : w1.frozen? ⟨w.heap.size + 1, 0, none⟩ = false := (hb1.frozen (by simp; try omega)).trans (by go_simp)
  have p1_1 : w1.cell? ⟨w.heap.size, 1, none⟩ = some (.slice a1 terms.length cap1) := (hb1.cell (by simp; try omega)).trans (by go_simp)
  have o1_1 : w1.cell? ⟨w.heap.size + 1 + 1, 1, none⟩ = some (.slice none 0 0) := (hb1.cell (by simp; try omega)).trans (by go_simp)
  have f1_1 : w1.frozen? ⟨w.heap.size + 1 + 1, 1, none⟩ = false := (hb1.frozen (by simp; try omega)).trans (by go_simp)
  have e1_1 : w1.cell? ⟨w.heap.size + 1, 1, none⟩ = some (.slice none 0 0) := (hb1.cell (by simp; try omega)).trans (by go_simp)
  have g1_1 : w1.frozen? ⟨w.heap.size + 1, 1, none⟩ = false := (hb1.frozen (by simp; try omega)).trans (by go_simp)
  have hR1 : w1.heap[w.heap.size + 1]? = some (.cells #[.int .i64 0, .slice none 0 0] 85 (0, 0)) := (hb1.block _ (by simp; try omega)).trans (by rw [Go.heap_alloc_old _ _ (by simp; try omega)]; exact heap_alloc2_new _ _ _)
  have u1 : OwnIn (cSlice cInt) (w.heap.size + 3) w1.heap.size w1 terms _ := OwnIn.wide ho1 (by simp; try omega) (Nat.le_refl _)
  clear hb1 ho1
  have U1 := Lib.hid u1
  clear u1
  go_wp2
  (try simp only [Exit.inBlock, Exit.then])
  refine bodyPost_ret (results_cell_row rfl _ _ (w.heap.size + 1) _ _ _ _ rfl (heap_setCell_same _ _ 1 _ _ _ (heap_setCell_same _ _ 0 _ _ _ ((heap_setCell_other _ _ _ _ (by simp)).trans (hR1)))) Try.underlying85 rfl (by kernel_rfl)) rfl ?_
  exact ⟨⟨_, _, rfl, OwnIn.own (cAtm_own (x := ⟨rel, terms⟩) (lo := w.heap.size) (hi := w1.heap.size) ((((U1.out).setCell (by simp; try omega) _).setCell (by simp; try omega) _).setCell (by simp; try omega) _) (by omega) G0.out (by omega) (by omega)) (by simp [World.setCell])⟩, (((hbb1).setCell (by simp; try omega) _).setCell (by simp; try omega) _).setCell (by simp; try omega) _⟩
theorem eqAtom_c {a1 : Option Addr} {cap1 : Nat} {a1' : Option Addr} {cap1' : Nat} {x y : Atm} {w : World} (h : At cAtm w x [.int .i64 x.rel, .slice a1 x.terms.length cap1]) (h' : At cAtm w y [.int .i64 y.rel, .slice a1' y.terms.length cap1']) :
    Calls Try.prog 122 #[.agg #[.int .i64 x.rel, .slice a1 x.terms.length cap1], .agg #[.int .i64 y.rel, .slice a1' y.terms.length cap1']] w fun e w' => e = .returned (.bool (decide (x = y))) ∧ Below w.heap.size w w' := by
  obtain ⟨k1, _⟩ := cAtm_inv h
  obtain ⟨m1, _⟩ := cAtm_inv h'
  clear h h'
  obtain ⟨rel, terms⟩ := x
  obtain ⟨rel', terms'⟩ := y
  have he : decide (Atm.mk rel terms = Atm.mk rel' terms') = (decide (rel = rel') && decide (terms = terms')) := by
    simp only [← Bool.decide_and]; congr 1; rw [Atm.mk.injEq]
  rw [he]
  clear he
  simp only at *
  have H1 : Hid (∀ ww, Below w.heap.size w ww → Calls Try.prog 31 #[.slice a1 terms.length cap1, .slice a1' terms'.length cap1'] ww fun e w' => e = .returned (.bool (decide (terms = terms'))) ∧ Below ww.heap.size ww w') :=
    fun ww hb => eqIntS_c (At.below (c := (cSlice cInt)) k1 hb (Nat.le_refl _)) (At.below (c := (cSlice cInt)) m1 hb (Nat.le_refl _))
  clear k1 m1
  by_cases hr0 : rel = rel'
  · subst hr0
    rw [decide_eq_true rfl, Bool.true_and]
    generalize decide (terms = terms') = z1 at *
    cases z1 with
    | true =>
      go_enter Try.func122, Try.ntmps122
      go_wp2_with fail
      refine (H1.out _ ?hb).mono ?_
      case hb => go_grown
      rintro e w1 ⟨rfl, hb1⟩
      have hbb1 : Below w.heap.size w w1 := Below.trans (by go_grown) (hb1.mono (by simp; try omega))
      have hsz1 : w.heap.size + 2 ≤ w1.heap.size := by have := hb1.size; simp at this; omega
      have p1_0 : w1.cell? ⟨w.heap.size, 0, none⟩ = some (.int .i64 rel) := (hb1.cell (by simp; try omega)).trans (by go_simp)
      have r1_0 : w1.cell? ⟨w.heap.size + 1, 0, none⟩ = some (.int .i64 rel) := (hb1.cell (by simp; try omega)).trans (by go_simp)
      have p1_1 : w1.cell? ⟨w.heap.size, 1, none⟩ = some (.slice a1 terms.length cap1) := (hb1.cell (by simp; try omega)).trans (by go_simp)
      have r1_1 : w1.cell? ⟨w.heap.size + 1, 1, none⟩ = some (.slice a1' terms'.length cap1') := (hb1.cell (by simp; try omega)).trans (by go_simp)
      clear hb1
      go_wp2
      go_ret
      exact ⟨by simp, hbb1⟩
    | false =>
      go_enter Try.func122, Try.ntmps122
      go_wp2_with fail
      refine (H1.out _ ?hb).mono ?_
      case hb => go_grown
      rintro e w1 ⟨rfl, hb1⟩
      have hbb1 : Below w.heap.size w w1 := Below.trans (by go_grown) (hb1.mono (by simp; try omega))
      have hsz1 : w.heap.size + 2 ≤ w1.heap.size := by have := hb1.size; simp at this; omega
      have p1_0 : w1.cell? ⟨w.heap.size, 0, none⟩ = some (.int .i64 rel) := (hb1.cell (by simp; try omega)).trans (by go_simp)
      have r1_0 : w1.cell? ⟨w.heap.size + 1, 0, none⟩ = some (.int .i64 rel) := (hb1.cell (by simp; try omega)).trans (by go_simp)
      have p1_1 : w1.cell? ⟨w.heap.size, 1, none⟩ = some (.slice a1 terms.length cap1) := (hb1.cell (by simp; try omega)).trans (by go_simp)
      have r1_1 : w1.cell? ⟨w.heap.size + 1, 1, none⟩ = some (.slice a1' terms'.length cap1') := (hb1.cell (by simp; try omega)).trans (by go_simp)
      clear hb1
      go_wp2
      go_ret
      exact ⟨by simp, hbb1⟩
  · have hn0 : (rel != rel') = true := by simp [hr0]
    rw [decide_eq_false hr0, Bool.false_and]
    go_enter Try.func122, Try.ntmps122
    go_wp2
    go_ret
    exact ⟨by simp, by go_grown⟩
end Go.Proofs.Ytmofmepbekffiaa

