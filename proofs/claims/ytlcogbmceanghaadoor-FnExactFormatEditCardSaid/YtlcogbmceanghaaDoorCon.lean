/- Chapter 9: IsValidConstraint, the model's and the program's. -/
import Derived.Test.YtlcogbmceanghaaDoorTyTre
import Derived.Test.YtlcogbmceanghaaDoorKeyOne
namespace Go.Proofs.YtlcogbmceanghaaDoor
open Go.RowKit
set_option linter.unusedVariables false
set_option maxRecDepth 100000

theorem validRels_each {l : List Rel} (h : validRels l = true) (k : Nat) (hk : k < l.length) : validRel l[k] = true := by
  unfold validRels at h
  rw [ascFrom_split] at h
  simp only [Bool.and_eq_true] at h
  exact List.all_eq_true.1 h.1.1 _ (List.getElem_mem hk)
/-- A column of a relation. -/
def colOk (l : List Rel) (r c : Int) : Bool := inB r 0 ((l.length : Int) - 1) && inB c 0 (arityAt l r - 1)
theorem isIndexI_any (i n : Int) (w : World) :
    Calls Tryd.prog 127 #[.int .i64 i, .int .i64 n] w fun e w' => e = .returned (.bool (inB i 0 (n - 1))) ∧ w = w' := by
  unfold inB
  have e : decide (i ≤ n - 1) = decide (i < n) := by simp; omega
  rw [e]
  clear e
  by_cases h : 0 ≤ i
  · go_enter Tryd.func127, Tryd.ntmps127
    go_wp2
    go_ret
    exact ⟨by simp; try omega, rfl⟩
  · go_enter Tryd.func127, Tryd.ntmps127
    go_wp2
    go_ret
    exact ⟨by simp; try omega, rfl⟩
/-- A constraint that fits the relations. -/
def fits (l : List Rel) (c : Dcn) : Bool := colOk l c.r1 c.j1 && (colOk l c.r1 c.c1 && (colOk l c.r2 c.j2 && (colOk l c.r2 c.c2 && inB c.cmp 1 2)))
/-- A valid constraint. -/
def validCon (d : Dbs) (c : Dcn) : Bool := validDb d && fits d.rels c
end Go.Proofs.YtlcogbmceanghaaDoor
