/- Structs: readings, the laws' helpers on them (size, copy, equality). -/
import Derived.Test.YthkbmfpgdidfhaaDoorTyTre
namespace Go.Proofs.YthkbmfpgdidfhaaDoor
open Go.RowKit
set_option linter.unusedVariables false
set_option maxRecDepth 100000

/-- A fraction. -/
structure Frc where
  num : Int
  den : Int
deriving DecidableEq
def cFrc : Cod Frc := cMap (fun x => (x.num, x.den)) (cPair cInt cInt)
theorem cFrc_fields {B : Nat} {w : World} {x : Frc} {cs : List Value} (h : cFrc.ok B w x cs) : cs = [.int .i64 x.num, .int .i64 x.den] ∧ inR x.num ∧ inR x.den := by
  obtain ⟨_, _, rfl, h0, h1⟩ := h
  obtain ⟨rfl, g0⟩ := h0
  obtain ⟨rfl, g1⟩ := h1
  exact ⟨rfl, g0, g1⟩
theorem cFrc_open {B : Nat} {w : World} {x : Frc} {cs : List Value} (h : cFrc.ok B w x cs) : cs = [.int .i64 x.num, .int .i64 x.den] ∧ cFrc.ok B w x [.int .i64 x.num, .int .i64 x.den] := by
  have h0 := h
  obtain ⟨rfl, _⟩ := cFrc_fields h
  exact ⟨rfl, h0⟩
theorem cFrc_inv {B : Nat} {w : World} {x : Frc} {v0 v1 : Value} (h : cFrc.ok B w x [v0, v1]) : inR x.num ∧ inR x.den := by
  obtain ⟨e, g0, g1⟩ := cFrc_fields h
  simp only [List.cons.injEq, and_true] at e
  obtain ⟨rfl, rfl⟩ := e
  exact ⟨g0, g1⟩
theorem cFrc_mk {B : Nat} {w : World} {x : Frc} (g0 : inR x.num) (g1 : inR x.den) : cFrc.ok B w x [.int .i64 x.num, .int .i64 x.den] := ⟨[_], _, rfl, ⟨rfl, g0⟩, ⟨rfl, g1⟩⟩
theorem cFrc_own {lo hi  : Nat} {w : World} {x : Frc} (g0 : inR x.num) (g1 : inR x.den) (q : lo ≤ hi) : OwnIn cFrc lo hi w x [.int .i64 x.num, .int .i64 x.den] := (OwnIn.pair (OwnIn.int lo lo _ g0) (OwnIn.int lo hi _ g1) (by omega) (by omega))
theorem toFraction_c {x : Frc} {w : World} (h : At cFrc w x [.int .i64 x.num, .int .i64 x.den]) :
    Calls Tryd.prog 27 #[.agg #[.int .i64 x.num, .int .i64 x.den]] w fun e w' => (e = .returned (.agg #[.int .i64 x.num, .int .i64 x.den]) ∧ Own cFrc w.heap.size w' x [.int .i64 x.num, .int .i64 x.den]) ∧ Below w.heap.size w w' := by
  obtain ⟨g0, g1⟩ := cFrc_inv h
  have Ho : Hid (∀ w' : World, Own cFrc w.heap.size w' x [.int .i64 x.num, .int .i64 x.den]) := fun w' => OwnIn.flat (cFrc_own (lo := w.heap.size) (hi := w.heap.size) (w := w') (x := x) g0 g1 (Nat.le_refl _))
  clear h g0 g1
  obtain ⟨num, den⟩ := x
  simp only at *
  go_enter Tryd.func27, Tryd.ntmps27
  go_wp2
  go_returns
  refine ⟨⟨?_, Ho.out _⟩, ?_⟩
  · simp
  · go_grown
end Go.Proofs.YthkbmfpgdidfhaaDoor
