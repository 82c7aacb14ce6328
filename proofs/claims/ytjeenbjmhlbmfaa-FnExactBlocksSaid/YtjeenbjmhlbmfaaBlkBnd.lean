/- Chapter 5: the blocks' sizes are small. -/
import Derived.Test.YtjeenbjmhlbmfaaBlock3
import Derived.Test.YtjeenbjmhlbmfaaMarkH
namespace Go.Proofs.Ytjeenbjmhlbmfaa
open Go.RowKit
set_option linter.unusedVariables false
set_option maxRecDepth 100000

theorem lvs_ints : ∀ bs : List (List Nat), lvs List.length (bs.map ints) = bs.flatten.length
  | [] => rfl
  | b :: bs => by
    have ih := lvs_ints bs
    unfold lvs at ih ⊢
    rw [List.map_cons, List.map_cons, List.sum_cons, ih, List.flatten_cons, List.length_append]
    simp [ints]
theorem blocksL_bnd (d : Dbs) : lvs List.length (blocksL d) ≤ 4611686018427000000 := by
  by_cases h : validDb d = true
  · unfold blocksL
    rw [if_pos h, lvs_ints, blksI_flatten, List.length_range]
    have := dbValid_len h
    omega
  · unfold blocksL
    rw [if_neg h]
    simp [lvs]
end Go.Proofs.Ytjeenbjmhlbmfaa

