/- Chapter 11: RemoveAtom, for the law. -/
import Derived.Test.YtgoofnhhhlncoaaRemM
import Derived.Test.YtgoofnhhhlncoaaAtIn
import Derived.Test.YtgoofnhhhlncoaaMarkThr
open Go Go.Proofs Go.RowKit
namespace Go.Proofs.Ytgoofnhhhlncoaa.Ab
set_option linter.unusedSimpArgs false
set_option linter.unusedVariables false
set_option maxRecDepth 100000
def remQ (q : Qry) (k : Int) : Qry := { vars := q.vars, atoms := remP q.atoms k q.atoms.length, free := q.free }
theorem remP_sub (l : List Atm) (k : Int) (i : Nat) : (remP l k i).Sublist l := by
  unfold remP
  split
  · exact (List.eraseIdx_sublist _ _).trans (List.take_sublist _ _)
  · exact List.take_sublist _ _
theorem remQ_good {q : Qry} (g : eQry.good q) (k : Int) : eQry.good (remQ q k) := by
  obtain ⟨g1, ⟨g2, g3⟩, g4⟩ := g
  exact ⟨g1, ⟨Nat.le_trans (remP_sub q.atoms k q.atoms.length).length_le g2, fun b hb => g3 b ((remP_sub q.atoms k q.atoms.length).subset hb)⟩, g4⟩
theorem lvs_sub {f : Atm → Nat} {l m : List Atm} (h : l.Sublist m) : lvs f l ≤ lvs f m := by
  unfold lvs
  induction h with
  | slnil => exact Nat.le_refl _
  | cons a _ ih => rw [List.map_cons, List.sum_cons]; omega
  | cons_cons a _ ih => rw [List.map_cons, List.map_cons, List.sum_cons, List.sum_cons]; omega
theorem remQ_lv {q : Qry} (h : sizeQuery q ≤ 1048576) (k : Int) : lvQ (remQ q k) ≤ 4611686018427000000 := by
  have h1 := lvs_sub (f := lvA) (remP_sub q.atoms k q.atoms.length)
  rw [lvs_lvA q.atoms] at h1
  unfold lvQ remQ
  unfold sizeQuery sizeAtomS at h
  show lvs lvA (remP q.atoms k q.atoms.length) + q.free.length ≤ _
  omega
theorem qry_each {q : Qry} (h : sizeQuery q ≤ 1048576) : ∀ x, x ∈ q.atoms → x.terms.length ≤ 1048576 := by
  intro x hx
  obtain ⟨j, hj, rfl⟩ := List.getElem_of_mem hx
  have := sumAtom_ge q.atoms j hj
  unfold sizeQuery sizeAtomS at h
  omega
theorem qry_atoms {q : Qry} (h : sizeQuery q ≤ 1048576) : q.atoms.length ≤ 1048576 := by unfold sizeQuery sizeAtomS at h; omega
theorem qry_free {q : Qry} (h : sizeQuery q ≤ 1048576) : q.free.length ≤ 1048576 := by unfold sizeQuery sizeAtomS at h; omega
end Go.Proofs.Ytgoofnhhhlncoaa.Ab

