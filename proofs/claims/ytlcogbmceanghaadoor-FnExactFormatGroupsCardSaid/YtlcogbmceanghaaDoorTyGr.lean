/- Structs: readings, the laws' helpers on them (size, copy, equality). -/
import Derived.Test.YtlcogbmceanghaaDoorTyTre
namespace Go.Proofs.YtlcogbmceanghaaDoor
open Go.RowKit
set_option linter.unusedVariables false
set_option maxRecDepth 100000

/-- A group with its range. -/
structure Grp where
  val : Int
  lo : Int
  hi : Int
  all : Bool
deriving DecidableEq
def cGrp : Cod Grp := cMap (fun x => (x.val, (x.lo, (x.hi, x.all)))) (cPair cInt (cPair cInt (cPair cInt cBool)))
theorem cGrp_fields {B : Nat} {w : World} {x : Grp} {cs : List Value} (h : cGrp.ok B w x cs) : cs = [.int .i64 x.val, .int .i64 x.lo, .int .i64 x.hi, .bool x.all] ∧ inR x.val ∧ inR x.lo ∧ inR x.hi := by
  obtain ⟨_, _, rfl, h0, _, _, rfl, h1, _, _, rfl, h2, h3⟩ := h
  obtain ⟨rfl, g0⟩ := h0
  obtain ⟨rfl, g1⟩ := h1
  obtain ⟨rfl, g2⟩ := h2
  have k3 := h3
  subst k3
  exact ⟨rfl, g0, g1, g2⟩
theorem cGrp_open {B : Nat} {w : World} {x : Grp} {cs : List Value} (h : cGrp.ok B w x cs) : cs = [.int .i64 x.val, .int .i64 x.lo, .int .i64 x.hi, .bool x.all] ∧ cGrp.ok B w x [.int .i64 x.val, .int .i64 x.lo, .int .i64 x.hi, .bool x.all] := by
  have h0 := h
  obtain ⟨rfl, _⟩ := cGrp_fields h
  exact ⟨rfl, h0⟩
theorem cGrp_inv {B : Nat} {w : World} {x : Grp} {v0 v1 v2 v3 : Value} (h : cGrp.ok B w x [v0, v1, v2, v3]) : inR x.val ∧ inR x.lo ∧ inR x.hi := by
  obtain ⟨e, g0, g1, g2⟩ := cGrp_fields h
  simp only [List.cons.injEq, and_true] at e
  obtain ⟨rfl, rfl, rfl, rfl⟩ := e
  exact ⟨g0, g1, g2⟩
theorem cGrp_mk {B : Nat} {w : World} {x : Grp} (g0 : inR x.val) (g1 : inR x.lo) (g2 : inR x.hi) : cGrp.ok B w x [.int .i64 x.val, .int .i64 x.lo, .int .i64 x.hi, .bool x.all] := ⟨[_], _, rfl, ⟨rfl, g0⟩, ⟨[_], _, rfl, ⟨rfl, g1⟩, ⟨[_], _, rfl, ⟨rfl, g2⟩, rfl⟩⟩⟩
theorem cGrp_own {lo hi  : Nat} {w : World} {x : Grp} (g0 : inR x.val) (g1 : inR x.lo) (g2 : inR x.hi) (q : lo ≤ hi) : OwnIn cGrp lo hi w x [.int .i64 x.val, .int .i64 x.lo, .int .i64 x.hi, .bool x.all] := (OwnIn.pair (OwnIn.int lo lo _ g0) (OwnIn.pair (OwnIn.int lo lo _ g1) (OwnIn.pair (OwnIn.int lo lo _ g2) (⟨[], ⟨rfl, rfl⟩, by simp⟩ : OwnIn cBool lo hi w x.all [.bool x.all]) (by omega) (by omega)) (by omega) (by omega)) (by omega) (by omega))
theorem toGroupRange_c {x : Grp} {w : World} (h : At cGrp w x [.int .i64 x.val, .int .i64 x.lo, .int .i64 x.hi, .bool x.all]) :
    Calls Tryd.prog 60 #[.agg #[.int .i64 x.val, .int .i64 x.lo, .int .i64 x.hi, .bool x.all]] w fun e w' => (e = .returned (.agg #[.int .i64 x.val, .int .i64 x.lo, .int .i64 x.hi, .bool x.all]) ∧ Own cGrp w.heap.size w' x [.int .i64 x.val, .int .i64 x.lo, .int .i64 x.hi, .bool x.all]) ∧ Below w.heap.size w w' := by
  obtain ⟨g0, g1, g2⟩ := cGrp_inv h
  have Ho : Hid (∀ w' : World, Own cGrp w.heap.size w' x [.int .i64 x.val, .int .i64 x.lo, .int .i64 x.hi, .bool x.all]) := fun w' => OwnIn.flat (cGrp_own (lo := w.heap.size) (hi := w.heap.size) (w := w') (x := x) g0 g1 g2 (Nat.le_refl _))
  clear h g0 g1 g2
  obtain ⟨val, lo, hi, all⟩ := x
  simp only at *
  go_enter Tryd.func60, Tryd.ntmps60
  go_wp2
  go_returns
  refine ⟨⟨?_, Ho.out _⟩, ?_⟩
  · simp
  · go_grown
theorem eqGroupRange_c {x y : Grp} {w : World} (h : At cGrp w x [.int .i64 x.val, .int .i64 x.lo, .int .i64 x.hi, .bool x.all]) (h' : At cGrp w y [.int .i64 y.val, .int .i64 y.lo, .int .i64 y.hi, .bool y.all]) :
    Calls Tryd.prog 63 #[.agg #[.int .i64 x.val, .int .i64 x.lo, .int .i64 x.hi, .bool x.all], .agg #[.int .i64 y.val, .int .i64 y.lo, .int .i64 y.hi, .bool y.all]] w fun e w' => e = .returned (.bool (decide (x = y))) ∧ Below w.heap.size w w' := by
  clear h h'
  obtain ⟨val, lo, hi, all⟩ := x
  obtain ⟨val', lo', hi', all'⟩ := y
  have he : decide (Grp.mk val lo hi all = Grp.mk val' lo' hi' all') = (decide (val = val') && (decide (lo = lo') && (decide (hi = hi') && decide (all = all')))) := by
    simp only [← Bool.decide_and]; congr 1; rw [Grp.mk.injEq]
  rw [he]
  clear he
  simp only at *
  by_cases hr0 : val = val'
  · subst hr0
    rw [decide_eq_true rfl, Bool.true_and]
    by_cases hr1 : lo = lo'
    · subst hr1
      rw [decide_eq_true rfl, Bool.true_and]
      by_cases hr2 : hi = hi'
      · subst hr2
        rw [decide_eq_true rfl, Bool.true_and]
        cases all with
        | true =>
          cases all' with
          | true =>
            rw [decide_eq_true (by decide)]
            go_enter Tryd.func63, Tryd.ntmps63
            go_wp2
            go_ret
            exact ⟨by simp, by go_grown⟩
          | false =>
            rw [decide_eq_false (by decide)]
            go_enter Tryd.func63, Tryd.ntmps63
            go_wp2
            go_ret
            exact ⟨by simp, by go_grown⟩
        | false =>
          cases all' with
          | true =>
            rw [decide_eq_false (by decide)]
            go_enter Tryd.func63, Tryd.ntmps63
            go_wp2
            go_ret
            exact ⟨by simp, by go_grown⟩
          | false =>
            rw [decide_eq_true (by decide)]
            go_enter Tryd.func63, Tryd.ntmps63
            go_wp2
            go_ret
            exact ⟨by simp, by go_grown⟩
      · have hn2 : (hi != hi') = true := by simp [hr2]
        rw [decide_eq_false hr2, Bool.false_and]
        go_enter Tryd.func63, Tryd.ntmps63
        go_wp2
        go_ret
        exact ⟨by simp, by go_grown⟩
    · have hn1 : (lo != lo') = true := by simp [hr1]
      rw [decide_eq_false hr1, Bool.false_and]
      go_enter Tryd.func63, Tryd.ntmps63
      go_wp2
      go_ret
      exact ⟨by simp, by go_grown⟩
  · have hn0 : (val != val') = true := by simp [hr0]
    rw [decide_eq_false hr0, Bool.false_and]
    go_enter Tryd.func63, Tryd.ntmps63
    go_wp2
    go_ret
    exact ⟨by simp, by go_grown⟩
end Go.Proofs.YtlcogbmceanghaaDoor

