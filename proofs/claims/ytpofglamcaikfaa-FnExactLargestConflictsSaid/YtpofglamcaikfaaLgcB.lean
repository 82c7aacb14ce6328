/- How large the largest conflict can be. -/
import Derived.Test.YtpofglamcaikfaaLgc
import Derived.Test.YtpofglamcaikfaaBlockTwo
import Derived.Test.YtpofglamcaikfaaRnkOne
open Go Go.Proofs Go.RowKit
namespace Go.Proofs.Ytpofglamcaikfaa.Ab
theorem lgcL_facts (d : Dbs) : (lgcL d).length ≤ 14 ∧ ∀ x, x ∈ lgcL d → 0 ≤ x ∧ x < (d.facts.length : Int) := by
  unfold lgcL
  cases h : lgO List.length (blocksL d) with
  | none => exact ⟨Nat.zero_le _, fun x hx => by cases hx⟩
  | some b => exact blocks_in b (lgO_mem _ h)
theorem lgcL_bnd (d : Dbs) : (lgcL d).length ≤ 4611686018427000000 := Nat.le_trans (lgcL_facts d).1 (by decide)
theorem lgcL_good {d : Dbs} (g : eDbs.good d) : (eSlice eInt).good (lgcL d) := by
  have h1 := lgcL_facts d
  have h2 : d.facts.length ≤ maxLen := g.2.1
  unfold maxLen at h2
  refine ⟨by simp only [maxLen]; omega, fun x hx => ?_⟩
  have := h1.2 x hx
  show inR x
  unfold inR
  omega
end Go.Proofs.Ytpofglamcaikfaa.Ab

