/- LadderQuery: the contracts of the layer for the law. Written by gen/backc.py. -/
import Derived.Test.YtknnnebjjjldpaaLadQ
open Go Go.Proofs Go.RowKit
namespace Go.Proofs.Ytknnnebjjjldpaa.Ab
set_option linter.unusedSimpArgs false
set_option linter.unusedVariables false
set_option maxRecDepth 100000
theorem _root_.Go.Proofs.Ytknnnebjjjldpaa.implLadderQuery_c  {w : World}  :
    Calls Try.prog 31 #[] w fun e w' => (∃ a1 c1 a2 c2, e = .returned (.agg #[.int .i64 (ladQ).vars, .slice a1 (ladQ).atoms.length c1, .slice a2 (ladQ).free.length c2]) ∧ Own cQry w.heap.size w' (ladQ) [.int .i64 (ladQ).vars, .slice a1 (ladQ).atoms.length c1, .slice a2 (ladQ).free.length c2]) ∧ Below w.heap.size w w' := by
  have hgood : eQry.good (ladQ) := ladQ_good
  refine Calls.mono ((implLadderQuery_a).call (cs := []) ?_) ?_
  · simp only [RdSs]
  · rintro e w' ⟨c, rfl, q1, q2⟩
    obtain ⟨cs, rfl, hq⟩ := Enc.ownA (p := eQry) (x := ladQ) (by exact ⟨rfl, trivial, rfl, rfl, trivial⟩) hgood (by simp [S.oss, S.os]) q1
    obtain ⟨a1, c1, a2, c2, rfl, _⟩ := cQry_open hq.at
    exact ⟨⟨a1, c1, a2, c2, rfl, hq⟩, q2⟩
theorem _root_.Go.Proofs.Ytknnnebjjjldpaa.specLadderQuery_c  {w : World}  :
    Calls Try.prog 30 #[] w fun e w' => (∃ a1 c1 a2 c2, e = .returned (.agg #[.int .i64 (ladQ).vars, .slice a1 (ladQ).atoms.length c1, .slice a2 (ladQ).free.length c2]) ∧ Own cQry w.heap.size w' (ladQ) [.int .i64 (ladQ).vars, .slice a1 (ladQ).atoms.length c1, .slice a2 (ladQ).free.length c2]) ∧ Below w.heap.size w w' := by
  have hgood : eQry.good (ladQ) := ladQ_good
  refine Calls.mono ((specLadderQuery_a).call (cs := []) ?_) ?_
  · simp only [RdSs]
  · rintro e w' ⟨c, rfl, q1, q2⟩
    obtain ⟨cs, rfl, hq⟩ := Enc.ownA (p := eQry) (x := ladQ) (by exact ⟨rfl, trivial, rfl, rfl, trivial⟩) hgood (by simp [S.oss, S.os]) q1
    obtain ⟨a1, c1, a2, c2, rfl, _⟩ := cQry_open hq.at
    exact ⟨⟨a1, c1, a2, c2, rfl, hq⟩, q2⟩
end Go.Proofs.Ytknnnebjjjldpaa.Ab

