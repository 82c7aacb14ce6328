/- TyTre: TyE TyF TyG TyH. -/
import Derived.Test.YtlcogbmceanghaaTyTwo
import Derived.BigQuiet
import Derived.Deep.QuietTactic
import Derived.Deep.RegionWith
/- Slices of structs: the laws' helpers on them (size, copy, equality). -/
namespace Go.Proofs.Ytlcogbmceanghaa
open Go.RowKit
set_option linter.unusedVariables false
set_option maxRecDepth 100000

/-- Element j of such a slice. -/
theorem at_IntS {B : Nat} {w : World} {l : List (List Int)} {a0 : Option Addr} {len cap0 : Nat} (h : (cSlice (cSlice cInt)).ok B w l [.slice a0 len cap0]) (j : Nat) (hj : j < l.length) :
    ∃ b off a cap, a0 = some ⟨b, off, none⟩ ∧ b < B ∧ w.cell? ⟨b, off + j, none⟩ = some (.slice a l[j].length cap) ∧ (cSlice cInt).ok B w l[j] [.slice a l[j].length cap] := by
  obtain ⟨b, off, es, rfl, hb, he, hc⟩ := slice_at h j hj
  obtain ⟨a, cap, rfl, hx⟩ := slice_open he
  exact ⟨b, off, a, cap, rfl, hb, by have := hc 0 (by decide); rw [show (cSlice cInt).n = 1 from rfl, Nat.mul_one, Nat.add_zero] at this; exact this, hx⟩
/-- The leaves of such a slice. -/
def sumIntS (l : List (List Int)) : Nat := (l.map fun x => x.length).sum
/-- The size of such a slice: its length and its leaves. -/
def sizeIntSS (l : List (List Int)) : Nat := l.length + sumIntS l
theorem sumIntS_ge (l : List (List Int)) (k : Nat) (hk : k < l.length) : (l[k].length) ≤ sumIntS l := by
  induction l generalizing k with
  | nil => simp at hk
  | cons x l ih =>
    unfold sumIntS at *
    rw [List.map_cons, List.sum_cons]
    cases k with
    | zero => exact Nat.le_add_right _ _
    | succ k => exact Nat.le_trans (ih k (by simpa using hk)) (Nat.le_add_left _ _)
theorem sumIntS_drop (l : List (List Int)) (k : Nat) (hk : k < l.length) : sumIntS (l.drop k) = (l[k].length) + sumIntS (l.drop (k + 1)) := by
  unfold sumIntS; rw [List.drop_eq_getElem_cons hk, List.map_cons, List.sum_cons]
theorem zIntS_at (A : List Value) (k n : Nat) (h : A.length = k * 1) (hk : k < n) : (A ++ (List.replicate (n - k) ([.slice none 0 0] : List Value)).flatten)[k]? = some (.slice none 0 0) := by
  have e1 : n - k = (n - (k + 1)) + 1 := by omega
  rw [e1, List.replicate_succ, List.flatten_cons]
  refine ?_
  rw [List.getElem?_append_right (by omega)]; simp [h]
theorem zIntS_step (A : List Value) (k n : Nat) (h : A.length = k * 1) (hk : k < n) (v0 : Value) : (A ++ (List.replicate (n - k) ([.slice none 0 0] : List Value)).flatten).set (k) v0 = (A ++ [v0]) ++ (List.replicate (n - (k + 1)) ([.slice none 0 0] : List Value)).flatten := by
  have e1 : n - k = (n - (k + 1)) + 1 := by omega
  rw [e1, List.replicate_succ, List.flatten_cons]
  rw [List.set_append_right _ _ (by omega)]
  simp [h]
theorem zIntS_made (n : Nat) : (madeCells #[.slice none 0 0] (n)).toList = (List.replicate n [.slice none 0 0]).flatten := by
  induction n with
  | zero => simp [madeCells]
  | succ n ih =>
    rw [List.replicate_succ', List.flatten_append, ← ih]
    unfold madeCells
    simp [Array.range_succ, Array.toList_range, Nat.mod_one]
theorem Try.infoIntS : (Try.prog.info? 38).map (fun i => (i.zero, i.size, i.bytes)) = some (some (.slice none 0 0), 1, 24) := by kernel_rfl
end Go.Proofs.Ytlcogbmceanghaa
namespace Go.Proofs.Ytlcogbmceanghaa
open Go.RowKit
set_option linter.unusedVariables false
set_option maxRecDepth 100000
/-- A denial constraint. -/
structure Dcn where
  r1 : Int
  r2 : Int
  j1 : Int
  j2 : Int
  c1 : Int
  c2 : Int
  cmp : Int
deriving DecidableEq
def cDcn : Cod Dcn := cMap (fun x => (x.r1, (x.r2, (x.j1, (x.j2, (x.c1, (x.c2, x.cmp))))))) (cPair cInt (cPair cInt (cPair cInt (cPair cInt (cPair cInt (cPair cInt cInt))))))
theorem cDcn_fields {B : Nat} {w : World} {x : Dcn} {cs : List Value} (h : cDcn.ok B w x cs) : cs = [.int .i64 x.r1, .int .i64 x.r2, .int .i64 x.j1, .int .i64 x.j2, .int .i64 x.c1, .int .i64 x.c2, .int .i64 x.cmp] ∧ inR x.r1 ∧ inR x.r2 ∧ inR x.j1 ∧ inR x.j2 ∧ inR x.c1 ∧ inR x.c2 ∧ inR x.cmp := by
  obtain ⟨_, _, rfl, h0, _, _, rfl, h1, _, _, rfl, h2, _, _, rfl, h3, _, _, rfl, h4, _, _, rfl, h5, h6⟩ := h
  obtain ⟨rfl, g0⟩ := h0
  obtain ⟨rfl, g1⟩ := h1
  obtain ⟨rfl, g2⟩ := h2
  obtain ⟨rfl, g3⟩ := h3
  obtain ⟨rfl, g4⟩ := h4
  obtain ⟨rfl, g5⟩ := h5
  obtain ⟨rfl, g6⟩ := h6
  exact ⟨rfl, g0, g1, g2, g3, g4, g5, g6⟩
theorem cDcn_open {B : Nat} {w : World} {x : Dcn} {cs : List Value} (h : cDcn.ok B w x cs) : cs = [.int .i64 x.r1, .int .i64 x.r2, .int .i64 x.j1, .int .i64 x.j2, .int .i64 x.c1, .int .i64 x.c2, .int .i64 x.cmp] ∧ cDcn.ok B w x [.int .i64 x.r1, .int .i64 x.r2, .int .i64 x.j1, .int .i64 x.j2, .int .i64 x.c1, .int .i64 x.c2, .int .i64 x.cmp] := by
  have h0 := h
  obtain ⟨rfl, _⟩ := cDcn_fields h
  exact ⟨rfl, h0⟩
theorem cDcn_inv {B : Nat} {w : World} {x : Dcn} {v0 v1 v2 v3 v4 v5 v6 : Value} (h : cDcn.ok B w x [v0, v1, v2, v3, v4, v5, v6]) : inR x.r1 ∧ inR x.r2 ∧ inR x.j1 ∧ inR x.j2 ∧ inR x.c1 ∧ inR x.c2 ∧ inR x.cmp := by
  obtain ⟨e, g0, g1, g2, g3, g4, g5, g6⟩ := cDcn_fields h
  simp only [List.cons.injEq, and_true] at e
  obtain ⟨rfl, rfl, rfl, rfl, rfl, rfl, rfl⟩ := e
  exact ⟨g0, g1, g2, g3, g4, g5, g6⟩
theorem cDcn_mk {B : Nat} {w : World} {x : Dcn} (g0 : inR x.r1) (g1 : inR x.r2) (g2 : inR x.j1) (g3 : inR x.j2) (g4 : inR x.c1) (g5 : inR x.c2) (g6 : inR x.cmp) : cDcn.ok B w x [.int .i64 x.r1, .int .i64 x.r2, .int .i64 x.j1, .int .i64 x.j2, .int .i64 x.c1, .int .i64 x.c2, .int .i64 x.cmp] := ⟨[_], _, rfl, ⟨rfl, g0⟩, ⟨[_], _, rfl, ⟨rfl, g1⟩, ⟨[_], _, rfl, ⟨rfl, g2⟩, ⟨[_], _, rfl, ⟨rfl, g3⟩, ⟨[_], _, rfl, ⟨rfl, g4⟩, ⟨[_], _, rfl, ⟨rfl, g5⟩, ⟨rfl, g6⟩⟩⟩⟩⟩⟩⟩
theorem cDcn_own {lo hi  : Nat} {w : World} {x : Dcn} (g0 : inR x.r1) (g1 : inR x.r2) (g2 : inR x.j1) (g3 : inR x.j2) (g4 : inR x.c1) (g5 : inR x.c2) (g6 : inR x.cmp) (q : lo ≤ hi) : OwnIn cDcn lo hi w x [.int .i64 x.r1, .int .i64 x.r2, .int .i64 x.j1, .int .i64 x.j2, .int .i64 x.c1, .int .i64 x.c2, .int .i64 x.cmp] := (OwnIn.pair (OwnIn.int lo lo _ g0) (OwnIn.pair (OwnIn.int lo lo _ g1) (OwnIn.pair (OwnIn.int lo lo _ g2) (OwnIn.pair (OwnIn.int lo lo _ g3) (OwnIn.pair (OwnIn.int lo lo _ g4) (OwnIn.pair (OwnIn.int lo lo _ g5) (OwnIn.int lo hi _ g6) (by omega) (by omega)) (by omega) (by omega)) (by omega) (by omega)) (by omega) (by omega)) (by omega) (by omega)) (by omega) (by omega))
/-- An edge: two vertices. -/
structure Edg where
  a : Int
  b : Int
deriving DecidableEq
def cEdg : Cod Edg := cMap (fun x => (x.a, x.b)) (cPair cInt cInt)
theorem cEdg_fields {B : Nat} {w : World} {x : Edg} {cs : List Value} (h : cEdg.ok B w x cs) : cs = [.int .i64 x.a, .int .i64 x.b] ∧ inR x.a ∧ inR x.b := by
  obtain ⟨_, _, rfl, h0, h1⟩ := h
  obtain ⟨rfl, g0⟩ := h0
  obtain ⟨rfl, g1⟩ := h1
  exact ⟨rfl, g0, g1⟩
theorem cEdg_open {B : Nat} {w : World} {x : Edg} {cs : List Value} (h : cEdg.ok B w x cs) : cs = [.int .i64 x.a, .int .i64 x.b] ∧ cEdg.ok B w x [.int .i64 x.a, .int .i64 x.b] := by
  have h0 := h
  obtain ⟨rfl, _⟩ := cEdg_fields h
  exact ⟨rfl, h0⟩
theorem cEdg_inv {B : Nat} {w : World} {x : Edg} {v0 v1 : Value} (h : cEdg.ok B w x [v0, v1]) : inR x.a ∧ inR x.b := by
  obtain ⟨e, g0, g1⟩ := cEdg_fields h
  simp only [List.cons.injEq, and_true] at e
  obtain ⟨rfl, rfl⟩ := e
  exact ⟨g0, g1⟩
theorem cEdg_mk {B : Nat} {w : World} {x : Edg} (g0 : inR x.a) (g1 : inR x.b) : cEdg.ok B w x [.int .i64 x.a, .int .i64 x.b] := ⟨[_], _, rfl, ⟨rfl, g0⟩, ⟨rfl, g1⟩⟩
theorem cEdg_own {lo hi  : Nat} {w : World} {x : Edg} (g0 : inR x.a) (g1 : inR x.b) (q : lo ≤ hi) : OwnIn cEdg lo hi w x [.int .i64 x.a, .int .i64 x.b] := (OwnIn.pair (OwnIn.int lo lo _ g0) (OwnIn.int lo hi _ g1) (by omega) (by omega))
/-- An atom: its relation's place, its terms. -/
structure Atm where
  rel : Int
  terms : List Int
deriving DecidableEq
def cAtm : Cod Atm := cMap (fun x => (x.rel, x.terms)) (cPair cInt (cSlice cInt))
theorem cAtm_fields {B : Nat} {w : World} {x : Atm} {cs : List Value} (h : cAtm.ok B w x cs) : ∃ a1 cap1, cs = [.int .i64 x.rel, .slice a1 x.terms.length cap1] ∧ (cSlice cInt).ok B w x.terms [.slice a1 x.terms.length cap1] ∧ inR x.rel := by
  obtain ⟨_, _, rfl, h0, h1⟩ := h
  obtain ⟨rfl, g0⟩ := h0
  have k1 := h1
  obtain ⟨a1, cap1, rfl, _⟩ := k1
  exact ⟨a1, cap1, rfl, h1, g0⟩
theorem cAtm_open {B : Nat} {w : World} {x : Atm} {cs : List Value} (h : cAtm.ok B w x cs) : ∃ a1 cap1, cs = [.int .i64 x.rel, .slice a1 x.terms.length cap1] ∧ cAtm.ok B w x [.int .i64 x.rel, .slice a1 x.terms.length cap1] := by
  have h0 := h
  obtain ⟨a1, cap1, rfl, _⟩ := cAtm_fields h
  exact ⟨a1, cap1, rfl, h0⟩
theorem cAtm_inv {B : Nat} {w : World} {x : Atm} {v0 v1 : Value} (h : cAtm.ok B w x [v0, v1]) : (cSlice cInt).ok B w x.terms [v1] ∧ inR x.rel := by
  obtain ⟨a1, cap1, e, h1, g0⟩ := cAtm_fields h
  simp only [List.cons.injEq, and_true] at e
  obtain ⟨rfl, rfl⟩ := e
  exact ⟨h1, g0⟩
theorem cAtm_mk {B : Nat} {w : World} {x : Atm} {v1 : Value} (h1 : (cSlice cInt).ok B w x.terms [v1]) (g0 : inR x.rel) : cAtm.ok B w x [.int .i64 x.rel, v1] := ⟨[_], _, rfl, ⟨rfl, g0⟩, h1⟩
theorem cAtm_own {lo hi lo1 hi1 : Nat} {w : World} {x : Atm} {v1 : Value} (h1 : OwnIn (cSlice cInt) lo1 hi1 w x.terms [v1]) (l1 : lo1 ≤ hi1) (g0 : inR x.rel) (q1 : lo ≤ lo1) (q : hi1 ≤ hi) : OwnIn cAtm lo hi w x [.int .i64 x.rel, v1] := (OwnIn.pair (OwnIn.int lo lo _ g0) (h1.wide (lo' := lo) (hi' := hi) (by omega) (by omega)) (by omega) (by omega))
/-- Its size: its leaves behind slices. -/
def sizeAtom (x : Atm) : Nat := x.terms.length
theorem szAtom_c {a1 : Option Addr} {cap1 : Nat} {x : Atm} {left : Int} {w : World} (hl : 0 ≤ left) (hl2 : left ≤ 1048576) (h : At cAtm w x [.int .i64 x.rel, .slice a1 x.terms.length cap1]) :
    Calls Try.prog 24 #[.agg #[.int .i64 x.rel, .slice a1 x.terms.length cap1], .int .i64 left] w fun e w' => e = .returned (.int .i64 (szR left (sizeAtom x))) ∧ Below w.heap.size w w' := by
  obtain ⟨k1, _⟩ := cAtm_inv h
  unfold sizeAtom
  clear h
  obtain ⟨rel, terms⟩ := x
  simp only at *
  have H1 : Hid (∀ q : Int, 0 ≤ q → q ≤ 1048576 → ∀ ww, Below w.heap.size w ww → Calls Try.prog 25 #[.slice a1 terms.length cap1, .int .i64 q] ww fun e w' => e = .returned (.int .i64 (szR q (terms.length))) ∧ Below ww.heap.size ww w') :=
    fun q h0 h1 ww hb => szIntS_c h0 h1 (At.below (c := (cSlice cInt)) k1 hb (Nat.le_refl _))
  clear k1
  have G1 := Lib.hid (H1.out (left) (by omega) (by omega))
  have hn1 : szR (left) (terms.length) < 0 → szR (left) (terms.length) = -1 := szR_neg
  have hle1 := szR_le (left) (terms.length) (by omega)
  generalize szR (left) (terms.length) = z1 at *
  by_cases hz1 : z1 < 0
  · obtain rfl : z1 = -1 := hn1 hz1
    clear hn1
    go_enter Try.func24, Try.ntmps24
    go_wp2_with fail
    refine (G1.out _ ?hb).mono ?_
    case hb => go_grown
    rintro e w1 ⟨rfl, hb1⟩
    have hbb1 : Below w.heap.size w w1 := Below.trans (by go_grown) (hb1.mono (by simp; try omega))
    have hsz1 : w.heap.size + 1 ≤ w1.heap.size := by have := hb1.size; simp at this; omega
    have p1_0 : w1.cell? ⟨w.heap.size, 0, none⟩ = some (.int .i64 rel) := (hb1.cell (by simp)).trans (by go_simp)
    have p1_1 : w1.cell? ⟨w.heap.size, 1, none⟩ = some (.slice a1 terms.length cap1) := (hb1.cell (by simp)).trans (by go_simp)
    clear hb1
    go_wp2
    go_ret
    exact ⟨rfl, hbb1⟩
  · clear hn1
    go_enter Try.func24, Try.ntmps24
    go_wp2_with fail
    refine (G1.out _ ?hb).mono ?_
    case hb => go_grown
    rintro e w1 ⟨rfl, hb1⟩
    have hbb1 : Below w.heap.size w w1 := Below.trans (by go_grown) (hb1.mono (by simp; try omega))
    have hsz1 : w.heap.size + 1 ≤ w1.heap.size := by have := hb1.size; simp at this; omega
    have p1_0 : w1.cell? ⟨w.heap.size, 0, none⟩ = some (.int .i64 rel) := (hb1.cell (by simp)).trans (by go_simp)
    have p1_1 : w1.cell? ⟨w.heap.size, 1, none⟩ = some (.slice a1 terms.length cap1) := (hb1.cell (by simp)).trans (by go_simp)
    clear hb1
    go_wp2
    go_ret
    exact ⟨rfl, hbb1⟩
set_option maxHeartbeats 800000 in
theorem toAtom_c {a1 : Option Addr} {cap1 : Nat} {x : Atm} {w : World} (hs : sizeAtom x ≤ 1048576) (h : At cAtm w x [.int .i64 x.rel, .slice a1 x.terms.length cap1]) :
    Calls Try.prog 28 #[.agg #[.int .i64 x.rel, .slice a1 x.terms.length cap1]] w fun e w' => (∃ a1' cap1', e = .returned (.agg #[.int .i64 x.rel, .slice a1' x.terms.length cap1']) ∧ Own cAtm w.heap.size w' x [.int .i64 x.rel, .slice a1' x.terms.length cap1']) ∧ Below w.heap.size w w' := by
  unfold sizeAtom at hs
  obtain ⟨k1, g0⟩ := cAtm_inv h
  have G0 := Lib.hid g0
  clear g0
  clear h
  obtain ⟨rel, terms⟩ := x
  simp only at *
  have H1 : Hid (∀ ww, Below w.heap.size w ww → Calls Try.prog 29 #[.slice a1 terms.length cap1] ww fun e w' => (∃ a' cap', e = .returned (.slice a' terms.length cap') ∧ Own (cSlice cInt) ww.heap.size w' terms [.slice a' terms.length cap']) ∧ Below ww.heap.size ww w') :=
    fun ww hb => toIntS_c (by omega) (At.below (c := (cSlice cInt)) k1 hb (Nat.le_refl _))
  clear hs k1
  go_enter Try.func28, Try.ntmps28
  go_wp2_with fail
  refine (H1.out _ ?hb).mono ?_
  case hb => go_grown
  rintro e w1 ⟨⟨a1', cap1', rfl, ho1⟩, hb1⟩
  have hbb1 : Below w.heap.size w w1 := Below.trans (by go_grown) (hb1.mono (by simp; try omega))
  have hsz1 : w.heap.size + 3 ≤ w1.heap.size := by have := hb1.size; simp at this; omega
  have p1_0 : w1.cell? ⟨w.heap.size, 0, none⟩ = some (.int .i64 rel) := (hb1.cell (by simp; try omega)).trans (by go_simp)
  have o1_0 : w1.cell? ⟨w.heap.size + 1 + 1, 0, none⟩ = some (.int .i64 rel) := (hb1.cell (by simp; try omega)).trans (by go_simp)
  have f1_0 : w1.frozen? ⟨w.heap.size + 1 + 1, 0, none⟩ = false := (hb1.frozen (by simp; try omega)).trans (by go_simp)
  have e1_0 : w1.cell? ⟨w.heap.size + 1, 0, none⟩ = some (.int .i64 0) := (hb1.cell (by simp; try omega)).trans (by go_simp)
  have g1_0 : w1.frozen? ⟨w.heap.size + 1, 0, none⟩ = false := (hb1.frozen (by simp; try omega)).trans (by go_simp)
  have p1_1 : w1.cell? ⟨w.heap.size, 1, none⟩ = some (.slice a1 terms.length cap1) := (hb1.cell (by simp; try omega)).trans (by go_simp)
  have o1_1 : w1.cell? ⟨w.heap.size + 1 + 1, 1, none⟩ = some (.slice none 0 0) := (hb1.cell (by simp; try omega)).trans (by go_simp)
  have f1_1 : w1.frozen? ⟨w.heap.size + 1 + 1, 1, none⟩ = false := (hb1.frozen (by simp; try omega)).trans (by go_simp)
  have e1_1 : w1.cell? ⟨w.heap.size + 1, 1, none⟩ = some (.slice none 0 0) := (hb1.cell (by simp; try omega)).trans (by go_simp)
  have g1_1 : w1.frozen? ⟨w.heap.size + 1, 1, none⟩ = false := (hb1.frozen (by simp; try omega)).trans (by go_simp)
  have hR1 : w1.heap[w.heap.size + 1]? = some (.cells #[.int .i64 0, .slice none 0 0] 43 (0, 0)) := (hb1.block _ (by simp; try omega)).trans (by rw [Go.heap_alloc_old _ _ (by simp; try omega)]; exact heap_alloc2_new _ _ _)
  have u1 : OwnIn (cSlice cInt) (w.heap.size + 3) w1.heap.size w1 terms _ := OwnIn.wide ho1 (by simp; try omega) (Nat.le_refl _)
  clear hb1 ho1
  have U1 := Lib.hid u1
  clear u1
  go_wp2
  (try simp only [Exit.inBlock, Exit.then])
  refine bodyPost_ret (results_cell_row rfl _ _ (w.heap.size + 1) _ _ _ _ rfl (heap_setCell_same _ _ 1 _ _ _ (heap_setCell_same _ _ 0 _ _ _ ((heap_setCell_other _ _ _ _ (by simp)).trans (hR1)))) Try.underlying43 rfl (by kernel_rfl)) rfl ?_
  exact ⟨⟨_, _, rfl, OwnIn.own (cAtm_own (x := ⟨rel, terms⟩) (lo := w.heap.size) (hi := w1.heap.size) ((((U1.out).setCell (by simp; try omega) _).setCell (by simp; try omega) _).setCell (by simp; try omega) _) (by omega) G0.out (by omega) (by omega)) (by simp [World.setCell])⟩, (((hbb1).setCell (by simp; try omega) _).setCell (by simp; try omega) _).setCell (by simp; try omega) _⟩
theorem eqAtom_c {a1 : Option Addr} {cap1 : Nat} {a1' : Option Addr} {cap1' : Nat} {x y : Atm} {w : World} (h : At cAtm w x [.int .i64 x.rel, .slice a1 x.terms.length cap1]) (h' : At cAtm w y [.int .i64 y.rel, .slice a1' y.terms.length cap1']) :
    Calls Try.prog 35 #[.agg #[.int .i64 x.rel, .slice a1 x.terms.length cap1], .agg #[.int .i64 y.rel, .slice a1' y.terms.length cap1']] w fun e w' => e = .returned (.bool (decide (x = y))) ∧ Below w.heap.size w w' := by
  obtain ⟨k1, _⟩ := cAtm_inv h
  obtain ⟨m1, _⟩ := cAtm_inv h'
  clear h h'
  obtain ⟨rel, terms⟩ := x
  obtain ⟨rel', terms'⟩ := y
  have he : decide (Atm.mk rel terms = Atm.mk rel' terms') = (decide (rel = rel') && decide (terms = terms')) := by
    simp only [← Bool.decide_and]; congr 1; rw [Atm.mk.injEq]
  rw [he]
  clear he
  simp only at *
  have H1 : Hid (∀ ww, Below w.heap.size w ww → Calls Try.prog 36 #[.slice a1 terms.length cap1, .slice a1' terms'.length cap1'] ww fun e w' => e = .returned (.bool (decide (terms = terms'))) ∧ Below ww.heap.size ww w') :=
    fun ww hb => eqIntS_c (At.below (c := (cSlice cInt)) k1 hb (Nat.le_refl _)) (At.below (c := (cSlice cInt)) m1 hb (Nat.le_refl _))
  clear k1 m1
  by_cases hr0 : rel = rel'
  · subst hr0
    rw [decide_eq_true rfl, Bool.true_and]
    generalize decide (terms = terms') = z1 at *
    cases z1 with
    | true =>
      go_enter Try.func35, Try.ntmps35
      go_wp2_with fail
      refine (H1.out _ ?hb).mono ?_
      case hb => go_grown
      rintro e w1 ⟨rfl, hb1⟩
      have hbb1 : Below w.heap.size w w1 := Below.trans (by go_grown) (hb1.mono (by simp; try omega))
      have hsz1 : w.heap.size + 2 ≤ w1.heap.size := by have := hb1.size; simp at this; omega
      have p1_0 : w1.cell? ⟨w.heap.size, 0, none⟩ = some (.int .i64 rel) := (hb1.cell (by simp; try omega)).trans (by go_simp)
      have r1_0 : w1.cell? ⟨w.heap.size + 1, 0, none⟩ = some (.int .i64 rel) := (hb1.cell (by simp; try omega)).trans (by go_simp)
      have p1_1 : w1.cell? ⟨w.heap.size, 1, none⟩ = some (.slice a1 terms.length cap1) := (hb1.cell (by simp; try omega)).trans (by go_simp)
      have r1_1 : w1.cell? ⟨w.heap.size + 1, 1, none⟩ = some (.slice a1' terms'.length cap1') := (hb1.cell (by simp; try omega)).trans (by go_simp)
      clear hb1
      go_wp2
      go_ret
      exact ⟨by simp, hbb1⟩
    | false =>
      go_enter Try.func35, Try.ntmps35
      go_wp2_with fail
      refine (H1.out _ ?hb).mono ?_
      case hb => go_grown
      rintro e w1 ⟨rfl, hb1⟩
      have hbb1 : Below w.heap.size w w1 := Below.trans (by go_grown) (hb1.mono (by simp; try omega))
      have hsz1 : w.heap.size + 2 ≤ w1.heap.size := by have := hb1.size; simp at this; omega
      have p1_0 : w1.cell? ⟨w.heap.size, 0, none⟩ = some (.int .i64 rel) := (hb1.cell (by simp; try omega)).trans (by go_simp)
      have r1_0 : w1.cell? ⟨w.heap.size + 1, 0, none⟩ = some (.int .i64 rel) := (hb1.cell (by simp; try omega)).trans (by go_simp)
      have p1_1 : w1.cell? ⟨w.heap.size, 1, none⟩ = some (.slice a1 terms.length cap1) := (hb1.cell (by simp; try omega)).trans (by go_simp)
      have r1_1 : w1.cell? ⟨w.heap.size + 1, 1, none⟩ = some (.slice a1' terms'.length cap1') := (hb1.cell (by simp; try omega)).trans (by go_simp)
      clear hb1
      go_wp2
      go_ret
      exact ⟨by simp, hbb1⟩
  · have hn0 : (rel != rel') = true := by simp [hr0]
    rw [decide_eq_false hr0, Bool.false_and]
    go_enter Try.func35, Try.ntmps35
    go_wp2
    go_ret
    exact ⟨by simp, by go_grown⟩
end Go.Proofs.Ytlcogbmceanghaa

/- Slices of structs: the laws' helpers on them (size, copy, equality). -/
namespace Go.Proofs.Ytlcogbmceanghaa
open Go.RowKit
set_option linter.unusedVariables false
set_option maxRecDepth 100000

/-- Element j of such a slice. -/
theorem at_ConflictEdge {B : Nat} {w : World} {l : List Edg} {a0 : Option Addr} {len cap0 : Nat} (h : (cSlice cEdg).ok B w l [.slice a0 len cap0]) (j : Nat) (hj : j < l.length) :
    ∃ b off, a0 = some ⟨b, off, none⟩ ∧ b < B ∧ w.cell? ⟨b, off + j * 2, none⟩ = some (.int .i64 l[j].a) ∧ w.cell? ⟨b, off + j * 2 + 1, none⟩ = some (.int .i64 l[j].b) ∧ cEdg.ok B w l[j] [.int .i64 l[j].a, .int .i64 l[j].b] := by
  obtain ⟨b, off, es, rfl, hb, he, hc⟩ := slice_at h j hj
  obtain ⟨rfl, hx⟩ := cEdg_open he
  exact ⟨b, off, rfl, hb, by exact hc 0 (by decide), by exact hc 1 (by decide), hx⟩
theorem zConflictEdge_at (A : List Value) (k n : Nat) (h : A.length = k * 2) (hk : k < n) : (A ++ (List.replicate (n - k) ([.int .i64 0, .int .i64 0] : List Value)).flatten)[k * 2]? = some (.int .i64 0) ∧ (A ++ (List.replicate (n - k) ([.int .i64 0, .int .i64 0] : List Value)).flatten)[k * 2 + 1]? = some (.int .i64 0) := by
  have e1 : n - k = (n - (k + 1)) + 1 := by omega
  rw [e1, List.replicate_succ, List.flatten_cons]
  refine ⟨?_, ?_⟩
  · rw [List.getElem?_append_right (by omega)]; simp [h]
  · rw [List.getElem?_append_right (by omega)]; simp [h]
theorem zConflictEdge_step (A : List Value) (k n : Nat) (h : A.length = k * 2) (hk : k < n) (v0 v1 : Value) : ((A ++ (List.replicate (n - k) ([.int .i64 0, .int .i64 0] : List Value)).flatten).set (k * 2) v0).set (k * 2 + 1) v1 = (A ++ [v0, v1]) ++ (List.replicate (n - (k + 1)) ([.int .i64 0, .int .i64 0] : List Value)).flatten := by
  have e1 : n - k = (n - (k + 1)) + 1 := by omega
  rw [e1, List.replicate_succ, List.flatten_cons]
  rw [List.set_append_right _ _ (by omega), List.set_append_right _ _ (by omega)]
  simp [h]
theorem zConflictEdge_made (n : Nat) : (madeCells #[.int .i64 0, .int .i64 0] (n * 2)).toList = (List.replicate n [.int .i64 0, .int .i64 0]).flatten := by
  induction n with
  | zero => simp [madeCells]
  | succ n ih =>
    rw [List.replicate_succ', List.flatten_append, ← ih]
    unfold madeCells
    simp [Array.range_succ, Array.toList_range, Nat.add_mod, Nat.mul_mod_left, Nat.succ_mul]
/-- Element j of such a slice. -/
theorem at_Atom {B : Nat} {w : World} {l : List Atm} {a0 : Option Addr} {len cap0 : Nat} (h : (cSlice cAtm).ok B w l [.slice a0 len cap0]) (j : Nat) (hj : j < l.length) :
    ∃ b off a cap, a0 = some ⟨b, off, none⟩ ∧ b < B ∧ w.cell? ⟨b, off + j * 2, none⟩ = some (.int .i64 l[j].rel) ∧ w.cell? ⟨b, off + j * 2 + 1, none⟩ = some (.slice a l[j].terms.length cap) ∧ cAtm.ok B w l[j] [.int .i64 l[j].rel, .slice a l[j].terms.length cap] := by
  obtain ⟨b, off, es, rfl, hb, he, hc⟩ := slice_at h j hj
  obtain ⟨a, cap, rfl, hx⟩ := cAtm_open he
  exact ⟨b, off, a, cap, rfl, hb, by exact hc 0 (by decide), by exact hc 1 (by decide), hx⟩
/-- The leaves of such a slice. -/
def sumAtom (l : List Atm) : Nat := (l.map fun x => x.terms.length).sum
/-- The size of such a slice: its length and its leaves. -/
def sizeAtomS (l : List Atm) : Nat := l.length + sumAtom l
theorem sumAtom_ge (l : List Atm) (k : Nat) (hk : k < l.length) : (l[k].terms.length) ≤ sumAtom l := by
  induction l generalizing k with
  | nil => simp at hk
  | cons x l ih =>
    unfold sumAtom at *
    rw [List.map_cons, List.sum_cons]
    cases k with
    | zero => exact Nat.le_add_right _ _
    | succ k => exact Nat.le_trans (ih k (by simpa using hk)) (Nat.le_add_left _ _)
theorem sumAtom_drop (l : List Atm) (k : Nat) (hk : k < l.length) : sumAtom (l.drop k) = (l[k].terms.length) + sumAtom (l.drop (k + 1)) := by
  unfold sumAtom; rw [List.drop_eq_getElem_cons hk, List.map_cons, List.sum_cons]
theorem zAtom_at (A : List Value) (k n : Nat) (h : A.length = k * 2) (hk : k < n) : (A ++ (List.replicate (n - k) ([.int .i64 0, .slice none 0 0] : List Value)).flatten)[k * 2]? = some (.int .i64 0) ∧ (A ++ (List.replicate (n - k) ([.int .i64 0, .slice none 0 0] : List Value)).flatten)[k * 2 + 1]? = some (.slice none 0 0) := by
  have e1 : n - k = (n - (k + 1)) + 1 := by omega
  rw [e1, List.replicate_succ, List.flatten_cons]
  refine ⟨?_, ?_⟩
  · rw [List.getElem?_append_right (by omega)]; simp [h]
  · rw [List.getElem?_append_right (by omega)]; simp [h]
theorem zAtom_step (A : List Value) (k n : Nat) (h : A.length = k * 2) (hk : k < n) (v0 v1 : Value) : ((A ++ (List.replicate (n - k) ([.int .i64 0, .slice none 0 0] : List Value)).flatten).set (k * 2) v0).set (k * 2 + 1) v1 = (A ++ [v0, v1]) ++ (List.replicate (n - (k + 1)) ([.int .i64 0, .slice none 0 0] : List Value)).flatten := by
  have e1 : n - k = (n - (k + 1)) + 1 := by omega
  rw [e1, List.replicate_succ, List.flatten_cons]
  rw [List.set_append_right _ _ (by omega), List.set_append_right _ _ (by omega)]
  simp [h]
theorem zAtom_made (n : Nat) : (madeCells #[.int .i64 0, .slice none 0 0] (n * 2)).toList = (List.replicate n [.int .i64 0, .slice none 0 0]).flatten := by
  induction n with
  | zero => simp [madeCells]
  | succ n ih =>
    rw [List.replicate_succ', List.flatten_append, ← ih]
    unfold madeCells
    simp [Array.range_succ, Array.toList_range, Nat.add_mod, Nat.mul_mod_left, Nat.succ_mul]
theorem Try.infoAtom : (Try.prog.info? 43).map (fun i => (i.zero, i.size, i.bytes)) = some (some (.agg #[.int .i64 0, .slice none 0 0]), 2, 32) := by kernel_rfl
end Go.Proofs.Ytlcogbmceanghaa
namespace Go.Proofs.Ytlcogbmceanghaa
open Go.RowKit
set_option linter.unusedVariables false
set_option maxRecDepth 100000
/-- A query: its number of variables, its atoms, its free variables. -/
structure Qry where
  vars : Int
  atoms : List Atm
  free : List Int
deriving DecidableEq
def cQry : Cod Qry := cMap (fun x => (x.vars, (x.atoms, x.free))) (cPair cInt (cPair (cSlice cAtm) (cSlice cInt)))
theorem cQry_fields {B : Nat} {w : World} {x : Qry} {cs : List Value} (h : cQry.ok B w x cs) : ∃ a1 cap1 a2 cap2, cs = [.int .i64 x.vars, .slice a1 x.atoms.length cap1, .slice a2 x.free.length cap2] ∧ (cSlice cAtm).ok B w x.atoms [.slice a1 x.atoms.length cap1] ∧ (cSlice cInt).ok B w x.free [.slice a2 x.free.length cap2] ∧ inR x.vars := by
  obtain ⟨_, _, rfl, h0, _, _, rfl, h1, h2⟩ := h
  obtain ⟨rfl, g0⟩ := h0
  have k1 := h1
  obtain ⟨a1, cap1, rfl, _⟩ := k1
  have k2 := h2
  obtain ⟨a2, cap2, rfl, _⟩ := k2
  exact ⟨a1, cap1, a2, cap2, rfl, h1, h2, g0⟩
theorem cQry_open {B : Nat} {w : World} {x : Qry} {cs : List Value} (h : cQry.ok B w x cs) : ∃ a1 cap1 a2 cap2, cs = [.int .i64 x.vars, .slice a1 x.atoms.length cap1, .slice a2 x.free.length cap2] ∧ cQry.ok B w x [.int .i64 x.vars, .slice a1 x.atoms.length cap1, .slice a2 x.free.length cap2] := by
  have h0 := h
  obtain ⟨a1, cap1, a2, cap2, rfl, _⟩ := cQry_fields h
  exact ⟨a1, cap1, a2, cap2, rfl, h0⟩
theorem cQry_inv {B : Nat} {w : World} {x : Qry} {v0 v1 v2 : Value} (h : cQry.ok B w x [v0, v1, v2]) : (cSlice cAtm).ok B w x.atoms [v1] ∧ (cSlice cInt).ok B w x.free [v2] ∧ inR x.vars := by
  obtain ⟨a1, cap1, a2, cap2, e, h1, h2, g0⟩ := cQry_fields h
  simp only [List.cons.injEq, and_true] at e
  obtain ⟨rfl, rfl, rfl⟩ := e
  exact ⟨h1, h2, g0⟩
theorem cQry_mk {B : Nat} {w : World} {x : Qry} {v1 v2 : Value} (h1 : (cSlice cAtm).ok B w x.atoms [v1]) (h2 : (cSlice cInt).ok B w x.free [v2]) (g0 : inR x.vars) : cQry.ok B w x [.int .i64 x.vars, v1, v2] := ⟨[_], _, rfl, ⟨rfl, g0⟩, ⟨[_], _, rfl, h1, h2⟩⟩
theorem cQry_own {lo hi lo1 hi1 lo2 hi2 : Nat} {w : World} {x : Qry} {v1 v2 : Value} (h1 : OwnIn (cSlice cAtm) lo1 hi1 w x.atoms [v1]) (l1 : lo1 ≤ hi1) (h2 : OwnIn (cSlice cInt) lo2 hi2 w x.free [v2]) (l2 : lo2 ≤ hi2) (g0 : inR x.vars) (q1 : lo ≤ lo1) (q2 : hi1 ≤ lo2) (q : hi2 ≤ hi) : OwnIn cQry lo hi w x [.int .i64 x.vars, v1, v2] := (OwnIn.pair (OwnIn.int lo lo _ g0) (OwnIn.pair (h1.wide (lo' := lo) (hi' := hi1) (by omega) (by omega)) (h2.wide (lo' := hi1) (hi' := hi) (by omega) (by omega)) (by omega) (by omega)) (by omega) (by omega))
/-- Its size: its leaves behind slices. -/
def sizeQuery (x : Qry) : Nat := sizeAtomS x.atoms + (x.free.length)
end Go.Proofs.Ytlcogbmceanghaa
