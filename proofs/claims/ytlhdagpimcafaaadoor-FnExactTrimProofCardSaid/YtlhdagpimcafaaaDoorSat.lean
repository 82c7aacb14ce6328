/- Chapter 20: SatisfiesClauses, the program's. -/
import Derived.Test.YtlhdagpimcafaaaDoorTyTre
import Derived.Test.YtlhdagpimcafaaaDoorQvOne
import Derived.Test.YtlhdagpimcafaaaDoorRelOne
namespace Go.Proofs.YtlhdagpimcafaaaDoor
open Go.RowKit
set_option linter.unusedVariables false
set_option maxRecDepth 100000

/-- The fact that a literal is about. -/
def foL (x : Int) : Int := if 0 < x then x - 1 else -x - 1
/-- A literal is true in a model. -/
def litT (m : List Bool) (x : Int) : Bool := if 0 < x then (m[(x - 1).toNat]?).getD false else if x < 0 then !((m[(-x - 1).toNat]?).getD true) else false
def clauseT (m : List Bool) (c : List Int) : Bool := c.any (litT m)
def satC (cs : List (List Int)) (m : List Bool) : Bool := cs.all (clauseT m)
theorem litT_pos (m : List Bool) (p : Nat) : litT m ((p : Int) + 1) = (m[p]?).getD false := by
  unfold litT
  rw [if_pos (by omega), show ((p : Int) + 1 - 1).toNat = p by omega]
theorem litT_neg (m : List Bool) (p : Nat) : litT m (-(p : Int) - 1) = !((m[p]?).getD true) := by
  unfold litT
  rw [if_neg (by omega), if_pos (by omega), show (-(-(p : Int) - 1) - 1).toNat = p by omega]
theorem litT_zero (m : List Bool) : litT m 0 = false := by unfold litT; simp
theorem foL_pos (p : Nat) : foL ((p : Int) + 1) = (p : Int) := by unfold foL; rw [if_pos (by omega)]; omega
theorem foL_neg (p : Nat) : foL (-(p : Int) - 1) = (p : Int) := by unfold foL; rw [if_neg (by omega)]; omega
theorem any_drop {α : Type} (p : α → Bool) (l : List α) (k : Nat) (hk : k < l.length) : (l.drop k).any p = (p l[k] || (l.drop (k + 1)).any p) := by
  rw [List.drop_eq_getElem_cons hk, List.any_cons]
theorem i64_not (x : Int) (hx : inR x) : bits .xor .i64 (-1) x = -x - 1 := by
  unfold inR at hx
  show IntKind.i64.wrap ((BitVec.ofInt 64 (-1) ^^^ BitVec.ofInt 64 x).toNat : Int) = _
  have h1 : BitVec.ofInt 64 (-1) = BitVec.allOnes 64 := by decide
  rw [h1, BitVec.allOnes_xor, BitVec.toNat_not, BitVec.toNat_ofInt, IntKind.wrap_i64]
  omega
theorem factOf_c {x : Int} {w : World} (hx : inR x) : Calls Tryd.prog 56 #[.int .i64 x] w fun e w' => e = .returned (.int .i64 (foL x)) ∧ w = w' := by
  have hnot := i64_not x hx
  unfold inR at hx
  unfold foL
  by_cases h : 0 < x
  · rw [if_pos h]
    go_enter Tryd.func56, Tryd.ntmps56
    go_wp2
    go_ret
    exact ⟨rfl, rfl⟩
  · rw [if_neg h]
    go_enter Tryd.func56, Tryd.ntmps56
    go_wp2
    go_ret
    refine ⟨?_, rfl⟩
    rw [← hnot]; rfl
end Go.Proofs.YtlhdagpimcafaaaDoor
