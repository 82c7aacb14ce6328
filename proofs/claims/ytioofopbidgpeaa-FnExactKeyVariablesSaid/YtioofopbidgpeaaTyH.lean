/- Structs: readings, the laws' helpers on them (size, copy, equality). -/
import Derived.Test.YtioofopbidgpeaaTyG
namespace Go.Proofs.Ytioofopbidgpeaa
open Go.RowKit
set_option linter.unusedVariables false
set_option maxRecDepth 100000

/-- A query: its number of variables, its atoms, its free variables. -/
structure Qry where
  vars : Int
  atoms : List Atm
  free : List Int
deriving DecidableEq
def cQry : Cod Qry := cMap (fun x => (x.vars, (x.atoms, x.free))) (cPair cInt (cPair (cSlice cAtm) (cSlice cInt)))
theorem cQry_fields {B : Nat} {w : World} {x : Qry} {cs : List Value} (h : cQry.ok B w x cs) : ∃ a1 cap1 a2 cap2, cs = [.int .i64 x.vars, .slice a1 x.atoms.length cap1, .slice a2 x.free.length cap2] ∧ (cSlice cAtm).ok B w x.atoms [.slice a1 x.atoms.length cap1] ∧ (cSlice cInt).ok B w x.free [.slice a2 x.free.length cap2] ∧ inR x.vars := by
  obtain ⟨_, _, rfl, h0, _, _, rfl, h1, h2⟩ := h
  obtain ⟨rfl, g0⟩ := h0
  have k1 := h1
  obtain ⟨a1, cap1, rfl, _⟩ := k1
  have k2 := h2
  obtain ⟨a2, cap2, rfl, _⟩ := k2
  exact ⟨a1, cap1, a2, cap2, rfl, h1, h2, g0⟩
theorem cQry_open {B : Nat} {w : World} {x : Qry} {cs : List Value} (h : cQry.ok B w x cs) : ∃ a1 cap1 a2 cap2, cs = [.int .i64 x.vars, .slice a1 x.atoms.length cap1, .slice a2 x.free.length cap2] ∧ cQry.ok B w x [.int .i64 x.vars, .slice a1 x.atoms.length cap1, .slice a2 x.free.length cap2] := by
  have h0 := h
  obtain ⟨a1, cap1, a2, cap2, rfl, _⟩ := cQry_fields h
  exact ⟨a1, cap1, a2, cap2, rfl, h0⟩
theorem cQry_inv {B : Nat} {w : World} {x : Qry} {v0 v1 v2 : Value} (h : cQry.ok B w x [v0, v1, v2]) : (cSlice cAtm).ok B w x.atoms [v1] ∧ (cSlice cInt).ok B w x.free [v2] ∧ inR x.vars := by
  obtain ⟨a1, cap1, a2, cap2, e, h1, h2, g0⟩ := cQry_fields h
  simp only [List.cons.injEq, and_true] at e
  obtain ⟨rfl, rfl, rfl⟩ := e
  exact ⟨h1, h2, g0⟩
theorem cQry_mk {B : Nat} {w : World} {x : Qry} {v1 v2 : Value} (h1 : (cSlice cAtm).ok B w x.atoms [v1]) (h2 : (cSlice cInt).ok B w x.free [v2]) (g0 : inR x.vars) : cQry.ok B w x [.int .i64 x.vars, v1, v2] := ⟨[_], _, rfl, ⟨rfl, g0⟩, ⟨[_], _, rfl, h1, h2⟩⟩
theorem cQry_own {lo hi lo1 hi1 lo2 hi2 : Nat} {w : World} {x : Qry} {v1 v2 : Value} (h1 : OwnIn (cSlice cAtm) lo1 hi1 w x.atoms [v1]) (l1 : lo1 ≤ hi1) (h2 : OwnIn (cSlice cInt) lo2 hi2 w x.free [v2]) (l2 : lo2 ≤ hi2) (g0 : inR x.vars) (q1 : lo ≤ lo1) (q2 : hi1 ≤ lo2) (q : hi2 ≤ hi) : OwnIn cQry lo hi w x [.int .i64 x.vars, v1, v2] := (OwnIn.pair (OwnIn.int lo lo _ g0) (OwnIn.pair (h1.wide (lo' := lo) (hi' := hi1) (by omega) (by omega)) (h2.wide (lo' := hi1) (hi' := hi) (by omega) (by omega)) (by omega) (by omega)) (by omega) (by omega))
/-- Its size: its leaves behind slices. -/
def sizeQuery (x : Qry) : Nat := sizeAtomS x.atoms + (x.free.length)
end Go.Proofs.Ytioofopbidgpeaa
