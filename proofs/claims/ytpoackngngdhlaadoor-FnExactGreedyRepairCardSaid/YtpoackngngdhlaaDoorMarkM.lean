/- The laws' marks in slices of structs of numbers. Written by gen/markflat.py. -/
import Derived.Test.YtpoackngngdhlaaDoorMarkL
import Derived.Test.YtpoackngngdhlaaDoorTyDc
namespace Go.Proofs.YtpoackngngdhlaaDoor
open Go.RowKit
set_option linter.unusedVariables false
set_option maxRecDepth 100000

def markC (k : Nat) (_ : Dcn) : Dcn := ⟨((k : Nat) : Int), ((k + 1 : Nat) : Int), ((k + 2 : Nat) : Int), ((k + 3 : Nat) : Int), ((k + 4 : Nat) : Int), ((k + 5 : Nat) : Int), ((k + 6 : Nat) : Int)⟩
def markCs (k : Nat) (l : List Dcn) : List Dcn := markL markC (fun _ => 7) k l
theorem cDcn_own_nil {F : List Nat} {w : World} {x : Dcn} {cs : List Value} (h : cDcn.own F w x cs) : F = [] := by
  obtain ⟨_, _, F1, F2, _, ⟨_, rfl⟩, ⟨_, _, F3, F4, _, ⟨_, rfl⟩, ⟨_, _, F5, F6, _, ⟨_, rfl⟩, ⟨_, _, F7, F8, _, ⟨_, rfl⟩, ⟨_, _, F9, F10, _, ⟨_, rfl⟩, ⟨_, _, F11, F12, _, ⟨_, rfl⟩, ⟨_, rfl⟩, rfl, _⟩, rfl, _⟩, rfl, _⟩, rfl, _⟩, rfl, _⟩, rfl, _⟩ := h
  rfl
theorem markCs_get (k : Nat) (l : List Dcn) (j : Nat) (hj : j < (markCs k l).length) : (markCs k l)[j] = ⟨((k + j * 7 : Nat) : Int), ((k + j * 7 + 1 : Nat) : Int), ((k + j * 7 + 2 : Nat) : Int), ((k + j * 7 + 3 : Nat) : Int), ((k + j * 7 + 4 : Nat) : Int), ((k + j * 7 + 5 : Nat) : Int), ((k + j * 7 + 6 : Nat) : Int)⟩ := by
  induction l generalizing k j with
  | nil => simp [markCs, markL] at hj
  | cons x l ih =>
    cases j with
    | zero => simp [markCs, markL, markC]
    | succ j =>
      have := ih (k + 7) j (by simpa [markCs, markL] using hj)
      simp only [markCs, markL, List.getElem_cons_succ] at this ⊢
      rw [this, show k + 7 + j * 7 = k + (j + 1) * 7 by omega]
end Go.Proofs.YtpoackngngdhlaaDoor

