/- Chapters 14 to 16: the answers' bounds. -/
import Derived.Test.YtgoofnhhhlncoabDoorCloX
open Go Go.Proofs Go.RowKit
namespace Go.Proofs.YtgoofnhhhlncoabDoor.Ab
set_option linter.unusedVariables false
theorem elems4_bnd (b : Nat) : (elemsN 4 b).length ≤ 4611686018427000000 := Nat.le_trans (elems_len 4 b) (by omega)
theorem closL_bnd (l : List Rel) (q : Qry) (skip : Int) (vars : List Int) : (closL l q skip vars).length ≤ 4611686018427000000 := by
  unfold closL
  split
  · exact elems4_bnd _
  · exact Nat.zero_le _
theorem keyClL_bnd (l : List Rel) (q : Qry) (k : Int) : (keyClL l q k).length ≤ 4611686018427000000 := by
  unfold keyClL
  split
  · exact elems4_bnd _
  · exact Nat.zero_le _
theorem attL_bnd (l : List Rel) (q : Qry) (k : Int) : (attL l q k).length ≤ 4611686018427000000 := by
  unfold attL
  split
  · exact elems4_bnd _
  · exact Nat.zero_le _
theorem keyClL_good (l : List Rel) (q : Qry) (k : Int) : (eSlice eInt).good (keyClL l q k) := by
  unfold keyClL
  split
  · exact elems_good (by omega)
  · exact ⟨Nat.zero_le _, fun x hx => by cases hx⟩
theorem attL_good (l : List Rel) (q : Qry) (k : Int) : (eSlice eInt).good (attL l q k) := by
  unfold attL
  split
  · exact elems_good (by omega)
  · exact ⟨Nat.zero_le _, fun x hx => by cases hx⟩
end Go.Proofs.YtgoofnhhhlncoabDoor.Ab

