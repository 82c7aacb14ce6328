/-
  No cell of these rows narrows 'for every input' (looked for: loops, veiled, ifaces, maps, wideKeys, modest, calm, conditions, laid).
  DERIVED. THE GIVEN ROWS OF THIS SEAT. 12 by the template 'for every input the law returns true; each argument reads behind the call as it read before'; 0 by the template 'total and deterministic' (their statements: YtknnnebjjjldpaaTotals.lean).
  GIVEN WITH THE SEED: the statements are not yours to turn. If you find one false, say at which input.
  Laid BY PROGRAM, IN A SANDBOX (cutbox-rows.mjs): the forced cells as the released guide's own fill.sh prints them over the translation f14ba9a66eed6e0d… (all of the seat's roots in one cut). By AI agents, Wed Nov 11 2026. No macro, syntax, notation, axiom, sorry.
-/
import Derived.Test.YtknnnebjjjldpaaChecked
import GoSem.Claim
import GoSem.ClaimJoined
import GoSem.ClaimMapViews
import Derived.JoinedTies
import Derived.KernelRfl
namespace Go.Proofs.Ytknnnebjjjldpaa
/- THE CELL 'sum', in the pinned program and in every row, IS THE sha256 OF THE DUMP (.gsa) THAT YtknnnebjjjldpaaProg.lean LOADS. Nothing in Lean hashes anything: it is a label: what it is worth is what the hold of that sum in a sandbox is worth. -/
noncomputable def Try.pinned : Pinned := { name := "ytknnnebjjjldpaa", sum := "f14ba9a66eed6e0d7845253c33325e57f62abbdae56057c449b0719c6a4fae8e", checked := Try.checked }
namespace Rows
def none {H : Type} : Left H := { results := [], args := [] }

/-- 'laws.FnExactSelectClauses': WHATEVER THE INPUT: true; the input reads as it did. -/
def fnExactSelectClausesSpec : ChangeSpec := { name := "fnExactSelectClauses", fn := fun _ => fun
  | [d1, d2] => { results := [.lit (.bool true)], args := [d1, d2] }
  | _ => none }
def fnExactSelectClausesRow : OpenClaim := { program := "ytknnnebjjjldpaa", sum := "f14ba9a66eed6e0d7845253c33325e57f62abbdae56057c449b0719c6a4fae8e", func := "loop.example/g01918/laws.FnExactSelectClauses", spec := "fnExactSelectClauses", apart := false }
def FnExactSelectClausesSaid : Prop := fnExactSelectClausesRow.holds Try.pinned (OpenSpec.ofChange fnExactSelectClausesSpec)

/-- ITS FALSE NEIGHBOUR: 'it returns false'. Refute it at one input. -/
def fnExactSelectClausesWrong : ChangeSpec := { name := "fnExactSelectClauses", fn := fun _ => fun
  | [d1, d2] => { results := [.lit (.bool false)], args := [d1, d2] }
  | _ => none }
def FnExactSelectClausesWrongFalsely : Prop := fnExactSelectClausesRow.holds Try.pinned (OpenSpec.ofChange fnExactSelectClausesWrong)

/-- 'laws.FnExactIsPreferred': WHATEVER THE INPUT: true; the input reads as it did. -/
def fnExactIsPreferredSpec : ChangeSpec := { name := "fnExactIsPreferred", fn := fun _ => fun
  | [d1, d2, d3] => { results := [.lit (.bool true)], args := [d1, d2, d3] }
  | _ => none }
def fnExactIsPreferredRow : OpenClaim := { program := "ytknnnebjjjldpaa", sum := "f14ba9a66eed6e0d7845253c33325e57f62abbdae56057c449b0719c6a4fae8e", func := "loop.example/g01918/laws.FnExactIsPreferred", spec := "fnExactIsPreferred", apart := false }
def FnExactIsPreferredSaid : Prop := fnExactIsPreferredRow.holds Try.pinned (OpenSpec.ofChange fnExactIsPreferredSpec)

/-- ITS FALSE NEIGHBOUR: 'it returns false'. Refute it at one input. -/
def fnExactIsPreferredWrong : ChangeSpec := { name := "fnExactIsPreferred", fn := fun _ => fun
  | [d1, d2, d3] => { results := [.lit (.bool false)], args := [d1, d2, d3] }
  | _ => none }
def FnExactIsPreferredWrongFalsely : Prop := fnExactIsPreferredRow.holds Try.pinned (OpenSpec.ofChange fnExactIsPreferredWrong)

/-- 'laws.FnExactLadderQuery': WHATEVER THE INPUT: true; the input reads as it did. -/
def fnExactLadderQuerySpec : ChangeSpec := { name := "fnExactLadderQuery", fn := fun _ => fun
  | [] => { results := [.lit (.bool true)], args := [] }
  | _ => none }
def fnExactLadderQueryRow : OpenClaim := { program := "ytknnnebjjjldpaa", sum := "f14ba9a66eed6e0d7845253c33325e57f62abbdae56057c449b0719c6a4fae8e", func := "loop.example/g01918/laws.FnExactLadderQuery", spec := "fnExactLadderQuery", apart := false }
def FnExactLadderQuerySaid : Prop := fnExactLadderQueryRow.holds Try.pinned (OpenSpec.ofChange fnExactLadderQuerySpec)

/-- ITS FALSE NEIGHBOUR: 'it returns false'. Refute it at one input. -/
def fnExactLadderQueryWrong : ChangeSpec := { name := "fnExactLadderQuery", fn := fun _ => fun
  | [] => { results := [.lit (.bool false)], args := [] }
  | _ => none }
def FnExactLadderQueryWrongFalsely : Prop := fnExactLadderQueryRow.holds Try.pinned (OpenSpec.ofChange fnExactLadderQueryWrong)

/-- 'laws.FnExactRemoveAtom': WHATEVER THE INPUT: true; the input reads as it did. -/
def fnExactRemoveAtomSpec : ChangeSpec := { name := "fnExactRemoveAtom", fn := fun _ => fun
  | [d1, d2] => { results := [.lit (.bool true)], args := [d1, d2] }
  | _ => none }
def fnExactRemoveAtomRow : OpenClaim := { program := "ytknnnebjjjldpaa", sum := "f14ba9a66eed6e0d7845253c33325e57f62abbdae56057c449b0719c6a4fae8e", func := "loop.example/g01918/laws.FnExactRemoveAtom", spec := "fnExactRemoveAtom", apart := false }
def FnExactRemoveAtomSaid : Prop := fnExactRemoveAtomRow.holds Try.pinned (OpenSpec.ofChange fnExactRemoveAtomSpec)

/-- ITS FALSE NEIGHBOUR: 'it returns false'. Refute it at one input. -/
def fnExactRemoveAtomWrong : ChangeSpec := { name := "fnExactRemoveAtom", fn := fun _ => fun
  | [d1, d2] => { results := [.lit (.bool false)], args := [d1, d2] }
  | _ => none }
def FnExactRemoveAtomWrongFalsely : Prop := fnExactRemoveAtomRow.holds Try.pinned (OpenSpec.ofChange fnExactRemoveAtomWrong)

/-- 'laws.FnExactAreValidClauses': WHATEVER THE INPUT: true; the input reads as it did. -/
def fnExactAreValidClausesSpec : ChangeSpec := { name := "fnExactAreValidClauses", fn := fun _ => fun
  | [d1, d2] => { results := [.lit (.bool true)], args := [d1, d2] }
  | _ => none }
def fnExactAreValidClausesRow : OpenClaim := { program := "ytknnnebjjjldpaa", sum := "f14ba9a66eed6e0d7845253c33325e57f62abbdae56057c449b0719c6a4fae8e", func := "loop.example/g01918/laws.FnExactAreValidClauses", spec := "fnExactAreValidClauses", apart := false }
def FnExactAreValidClausesSaid : Prop := fnExactAreValidClausesRow.holds Try.pinned (OpenSpec.ofChange fnExactAreValidClausesSpec)

/-- ITS FALSE NEIGHBOUR: 'it returns false'. Refute it at one input. -/
def fnExactAreValidClausesWrong : ChangeSpec := { name := "fnExactAreValidClauses", fn := fun _ => fun
  | [d1, d2] => { results := [.lit (.bool false)], args := [d1, d2] }
  | _ => none }
def FnExactAreValidClausesWrongFalsely : Prop := fnExactAreValidClausesRow.holds Try.pinned (OpenSpec.ofChange fnExactAreValidClausesWrong)

/-- 'laws.FnExactRowDifference': WHATEVER THE INPUT: true; the input reads as it did. -/
def fnExactRowDifferenceSpec : ChangeSpec := { name := "fnExactRowDifference", fn := fun _ => fun
  | [d1, d2] => { results := [.lit (.bool true)], args := [d1, d2] }
  | _ => none }
def fnExactRowDifferenceRow : OpenClaim := { program := "ytknnnebjjjldpaa", sum := "f14ba9a66eed6e0d7845253c33325e57f62abbdae56057c449b0719c6a4fae8e", func := "loop.example/g01918/laws.FnExactRowDifference", spec := "fnExactRowDifference", unfollowed := true, recurses := true, apart := false }
def FnExactRowDifferenceSaid : Prop := fnExactRowDifferenceRow.holds Try.pinned (OpenSpec.ofChange fnExactRowDifferenceSpec)

/-- ITS FALSE NEIGHBOUR: 'it returns false'. Refute it at one input. -/
def fnExactRowDifferenceWrong : ChangeSpec := { name := "fnExactRowDifference", fn := fun _ => fun
  | [d1, d2] => { results := [.lit (.bool false)], args := [d1, d2] }
  | _ => none }
def FnExactRowDifferenceWrongFalsely : Prop := fnExactRowDifferenceRow.holds Try.pinned (OpenSpec.ofChange fnExactRowDifferenceWrong)

/-- 'laws.FnExactCountRepairs': WHATEVER THE INPUT: true; the input reads as it did. -/
def fnExactCountRepairsSpec : ChangeSpec := { name := "fnExactCountRepairs", fn := fun _ => fun
  | [d] => { results := [.lit (.bool true)], args := [d] }
  | _ => none }
def fnExactCountRepairsRow : OpenClaim := { program := "ytknnnebjjjldpaa", sum := "f14ba9a66eed6e0d7845253c33325e57f62abbdae56057c449b0719c6a4fae8e", func := "loop.example/g01918/laws.FnExactCountRepairs", spec := "fnExactCountRepairs", inPlace := ["internal/bytealg.abigen_runtime_cmpstring"], unfollowed := true, recurses := true, apart := false }
def FnExactCountRepairsSaid : Prop := fnExactCountRepairsRow.holds Try.pinned (OpenSpec.ofChange fnExactCountRepairsSpec)

/-- ITS FALSE NEIGHBOUR: 'it returns false'. Refute it at one input. -/
def fnExactCountRepairsWrong : ChangeSpec := { name := "fnExactCountRepairs", fn := fun _ => fun
  | [d] => { results := [.lit (.bool false)], args := [d] }
  | _ => none }
def FnExactCountRepairsWrongFalsely : Prop := fnExactCountRepairsRow.holds Try.pinned (OpenSpec.ofChange fnExactCountRepairsWrong)

/-- 'laws.FnExactConflictStatistics': WHATEVER THE INPUT: true; the input reads as it did. -/
def fnExactConflictStatisticsSpec : ChangeSpec := { name := "fnExactConflictStatistics", fn := fun _ => fun
  | [d] => { results := [.lit (.bool true)], args := [d] }
  | _ => none }
def fnExactConflictStatisticsRow : OpenClaim := { program := "ytknnnebjjjldpaa", sum := "f14ba9a66eed6e0d7845253c33325e57f62abbdae56057c449b0719c6a4fae8e", func := "loop.example/g01918/laws.FnExactConflictStatistics", spec := "fnExactConflictStatistics", inPlace := ["internal/bytealg.abigen_runtime_cmpstring"], unfollowed := true, recurses := true, apart := false }
def FnExactConflictStatisticsSaid : Prop := fnExactConflictStatisticsRow.holds Try.pinned (OpenSpec.ofChange fnExactConflictStatisticsSpec)

/-- ITS FALSE NEIGHBOUR: 'it returns false'. Refute it at one input. -/
def fnExactConflictStatisticsWrong : ChangeSpec := { name := "fnExactConflictStatistics", fn := fun _ => fun
  | [d] => { results := [.lit (.bool false)], args := [d] }
  | _ => none }
def FnExactConflictStatisticsWrongFalsely : Prop := fnExactConflictStatisticsRow.holds Try.pinned (OpenSpec.ofChange fnExactConflictStatisticsWrong)

/-- 'laws.FnExactInconsistencyMeasure': WHATEVER THE INPUT: true; the input reads as it did. -/
def fnExactInconsistencyMeasureSpec : ChangeSpec := { name := "fnExactInconsistencyMeasure", fn := fun _ => fun
  | [d] => { results := [.lit (.bool true)], args := [d] }
  | _ => none }
def fnExactInconsistencyMeasureRow : OpenClaim := { program := "ytknnnebjjjldpaa", sum := "f14ba9a66eed6e0d7845253c33325e57f62abbdae56057c449b0719c6a4fae8e", func := "loop.example/g01918/laws.FnExactInconsistencyMeasure", spec := "fnExactInconsistencyMeasure", inPlace := ["internal/bytealg.abigen_runtime_cmpstring"], unfollowed := true, recurses := true, apart := false }
def FnExactInconsistencyMeasureSaid : Prop := fnExactInconsistencyMeasureRow.holds Try.pinned (OpenSpec.ofChange fnExactInconsistencyMeasureSpec)

/-- ITS FALSE NEIGHBOUR: 'it returns false'. Refute it at one input. -/
def fnExactInconsistencyMeasureWrong : ChangeSpec := { name := "fnExactInconsistencyMeasure", fn := fun _ => fun
  | [d] => { results := [.lit (.bool false)], args := [d] }
  | _ => none }
def FnExactInconsistencyMeasureWrongFalsely : Prop := fnExactInconsistencyMeasureRow.holds Try.pinned (OpenSpec.ofChange fnExactInconsistencyMeasureWrong)

/-- 'laws.FnExactAreValidWeights': WHATEVER THE INPUT: true; the input reads as it did. -/
def fnExactAreValidWeightsSpec : ChangeSpec := { name := "fnExactAreValidWeights", fn := fun _ => fun
  | [d1, d2] => { results := [.lit (.bool true)], args := [d1, d2] }
  | _ => none }
def fnExactAreValidWeightsRow : OpenClaim := { program := "ytknnnebjjjldpaa", sum := "f14ba9a66eed6e0d7845253c33325e57f62abbdae56057c449b0719c6a4fae8e", func := "loop.example/g01918/laws.FnExactAreValidWeights", spec := "fnExactAreValidWeights", inPlace := ["internal/bytealg.abigen_runtime_cmpstring"], unfollowed := true, recurses := true, apart := false }
def FnExactAreValidWeightsSaid : Prop := fnExactAreValidWeightsRow.holds Try.pinned (OpenSpec.ofChange fnExactAreValidWeightsSpec)

/-- ITS FALSE NEIGHBOUR: 'it returns false'. Refute it at one input. -/
def fnExactAreValidWeightsWrong : ChangeSpec := { name := "fnExactAreValidWeights", fn := fun _ => fun
  | [d1, d2] => { results := [.lit (.bool false)], args := [d1, d2] }
  | _ => none }
def FnExactAreValidWeightsWrongFalsely : Prop := fnExactAreValidWeightsRow.holds Try.pinned (OpenSpec.ofChange fnExactAreValidWeightsWrong)

/-- 'laws.FnExactRepairWeight': WHATEVER THE INPUT: true; the input reads as it did. -/
def fnExactRepairWeightSpec : ChangeSpec := { name := "fnExactRepairWeight", fn := fun _ => fun
  | [d1, d2, d3] => { results := [.lit (.bool true)], args := [d1, d2, d3] }
  | _ => none }
def fnExactRepairWeightRow : OpenClaim := { program := "ytknnnebjjjldpaa", sum := "f14ba9a66eed6e0d7845253c33325e57f62abbdae56057c449b0719c6a4fae8e", func := "loop.example/g01918/laws.FnExactRepairWeight", spec := "fnExactRepairWeight", inPlace := ["internal/bytealg.abigen_runtime_cmpstring"], unfollowed := true, recurses := true, apart := false }
def FnExactRepairWeightSaid : Prop := fnExactRepairWeightRow.holds Try.pinned (OpenSpec.ofChange fnExactRepairWeightSpec)

/-- ITS FALSE NEIGHBOUR: 'it returns false'. Refute it at one input. -/
def fnExactRepairWeightWrong : ChangeSpec := { name := "fnExactRepairWeight", fn := fun _ => fun
  | [d1, d2, d3] => { results := [.lit (.bool false)], args := [d1, d2, d3] }
  | _ => none }
def FnExactRepairWeightWrongFalsely : Prop := fnExactRepairWeightRow.holds Try.pinned (OpenSpec.ofChange fnExactRepairWeightWrong)

/-- 'laws.FnExactTotalWeight': WHATEVER THE INPUT: true; the input reads as it did. -/
def fnExactTotalWeightSpec : ChangeSpec := { name := "fnExactTotalWeight", fn := fun _ => fun
  | [d1, d2] => { results := [.lit (.bool true)], args := [d1, d2] }
  | _ => none }
def fnExactTotalWeightRow : OpenClaim := { program := "ytknnnebjjjldpaa", sum := "f14ba9a66eed6e0d7845253c33325e57f62abbdae56057c449b0719c6a4fae8e", func := "loop.example/g01918/laws.FnExactTotalWeight", spec := "fnExactTotalWeight", inPlace := ["internal/bytealg.abigen_runtime_cmpstring"], unfollowed := true, recurses := true, apart := false }
def FnExactTotalWeightSaid : Prop := fnExactTotalWeightRow.holds Try.pinned (OpenSpec.ofChange fnExactTotalWeightSpec)

/-- ITS FALSE NEIGHBOUR: 'it returns false'. Refute it at one input. -/
def fnExactTotalWeightWrong : ChangeSpec := { name := "fnExactTotalWeight", fn := fun _ => fun
  | [d1, d2] => { results := [.lit (.bool false)], args := [d1, d2] }
  | _ => none }
def FnExactTotalWeightWrongFalsely : Prop := fnExactTotalWeightRow.holds Try.pinned (OpenSpec.ofChange fnExactTotalWeightWrong)

/- THE SECOND FORM. 'bulk': how many values and letters a reading holds, each counted each time it is reached (what is shared counts as often as it is met; a slice's spare places count too). A statement '..UptoSaid' is the law's where the arguments, and the package variables that the reading takes, are together of bulk at most 1048576: NARROWER than '..Said'. Prove '..Said' where nothing that the law and all that it calls make is longer than what came in: it says more and counts as full. Else prove '..UptoSaid'. A law counts once. -/
mutual
def uptoBulk {H : Type} : DataW H → Nat
  | .lit (.string bytes) => bytes.length + 1
  | .lit _ => 1
  | .nil => 1
  | .ptr d => uptoBulk d + 1
  | .slice elems spare => uptoBulkAll elems + uptoBulkAll spare + 1
  | .agg parts => uptoBulkAll parts + 1
  | .iface _ d => uptoBulk d + 1
  | .map entries => uptoBulkEntries entries + 1
  | .held _ => 1
def uptoBulkAll {H : Type} : List (DataW H) → Nat
  | [] => 0
  | d :: r => uptoBulk d + uptoBulkAll r
def uptoBulkEntries {H : Type} : List (Lit × DataW H) → Nat
  | [] => 0
  | x :: r => uptoBulkEntry x + uptoBulkEntries r
def uptoBulkEntry {H : Type} : Lit × DataW H → Nat
  | (.string bytes, d) => bytes.length + uptoBulk d + 1
  | (_, d) => uptoBulk d + 1
 end
def uptoSmall : (H : Type) → List (DataW H) → Bool := fun _ ds => decide (uptoBulkAll ds ≤ 1048576)
def OpenSpec.upto (s : _root_.Go.ChangeSpec) : _root_.Go.OpenSpec := { _root_.Go.OpenSpec.ofChange s with cond := some uptoSmall }

/-- 'laws.FnExactSelectClauses', WHERE WHAT IT READS IS OF BULK AT MOST 1048576: true; the input reads as it did. -/
def fnExactSelectClausesUptoRow : OpenClaim := { program := "ytknnnebjjjldpaa", sum := "f14ba9a66eed6e0d7845253c33325e57f62abbdae56057c449b0719c6a4fae8e", func := "loop.example/g01918/laws.FnExactSelectClauses", spec := "fnExactSelectClauses", apart := false, narrowed := true }
def FnExactSelectClausesUptoSaid : Prop := fnExactSelectClausesUptoRow.holds Try.pinned (OpenSpec.upto fnExactSelectClausesSpec)

/-- 'laws.FnExactIsPreferred', WHERE WHAT IT READS IS OF BULK AT MOST 1048576: true; the input reads as it did. -/
def fnExactIsPreferredUptoRow : OpenClaim := { program := "ytknnnebjjjldpaa", sum := "f14ba9a66eed6e0d7845253c33325e57f62abbdae56057c449b0719c6a4fae8e", func := "loop.example/g01918/laws.FnExactIsPreferred", spec := "fnExactIsPreferred", apart := false, narrowed := true }
def FnExactIsPreferredUptoSaid : Prop := fnExactIsPreferredUptoRow.holds Try.pinned (OpenSpec.upto fnExactIsPreferredSpec)

/-- 'laws.FnExactLadderQuery', WHERE WHAT IT READS IS OF BULK AT MOST 1048576: true; the input reads as it did. -/
def fnExactLadderQueryUptoRow : OpenClaim := { program := "ytknnnebjjjldpaa", sum := "f14ba9a66eed6e0d7845253c33325e57f62abbdae56057c449b0719c6a4fae8e", func := "loop.example/g01918/laws.FnExactLadderQuery", spec := "fnExactLadderQuery", apart := false, narrowed := true }
def FnExactLadderQueryUptoSaid : Prop := fnExactLadderQueryUptoRow.holds Try.pinned (OpenSpec.upto fnExactLadderQuerySpec)

/-- 'laws.FnExactRemoveAtom', WHERE WHAT IT READS IS OF BULK AT MOST 1048576: true; the input reads as it did. -/
def fnExactRemoveAtomUptoRow : OpenClaim := { program := "ytknnnebjjjldpaa", sum := "f14ba9a66eed6e0d7845253c33325e57f62abbdae56057c449b0719c6a4fae8e", func := "loop.example/g01918/laws.FnExactRemoveAtom", spec := "fnExactRemoveAtom", apart := false, narrowed := true }
def FnExactRemoveAtomUptoSaid : Prop := fnExactRemoveAtomUptoRow.holds Try.pinned (OpenSpec.upto fnExactRemoveAtomSpec)

/-- 'laws.FnExactAreValidClauses', WHERE WHAT IT READS IS OF BULK AT MOST 1048576: true; the input reads as it did. -/
def fnExactAreValidClausesUptoRow : OpenClaim := { program := "ytknnnebjjjldpaa", sum := "f14ba9a66eed6e0d7845253c33325e57f62abbdae56057c449b0719c6a4fae8e", func := "loop.example/g01918/laws.FnExactAreValidClauses", spec := "fnExactAreValidClauses", apart := false, narrowed := true }
def FnExactAreValidClausesUptoSaid : Prop := fnExactAreValidClausesUptoRow.holds Try.pinned (OpenSpec.upto fnExactAreValidClausesSpec)

/-- 'laws.FnExactRowDifference', WHERE WHAT IT READS IS OF BULK AT MOST 1048576: true; the input reads as it did. -/
def fnExactRowDifferenceUptoRow : OpenClaim := { program := "ytknnnebjjjldpaa", sum := "f14ba9a66eed6e0d7845253c33325e57f62abbdae56057c449b0719c6a4fae8e", func := "loop.example/g01918/laws.FnExactRowDifference", spec := "fnExactRowDifference", unfollowed := true, recurses := true, apart := false, narrowed := true }
def FnExactRowDifferenceUptoSaid : Prop := fnExactRowDifferenceUptoRow.holds Try.pinned (OpenSpec.upto fnExactRowDifferenceSpec)

/-- 'laws.FnExactCountRepairs', WHERE WHAT IT READS IS OF BULK AT MOST 1048576: true; the input reads as it did. -/
def fnExactCountRepairsUptoRow : OpenClaim := { program := "ytknnnebjjjldpaa", sum := "f14ba9a66eed6e0d7845253c33325e57f62abbdae56057c449b0719c6a4fae8e", func := "loop.example/g01918/laws.FnExactCountRepairs", spec := "fnExactCountRepairs", inPlace := ["internal/bytealg.abigen_runtime_cmpstring"], unfollowed := true, recurses := true, apart := false, narrowed := true }
def FnExactCountRepairsUptoSaid : Prop := fnExactCountRepairsUptoRow.holds Try.pinned (OpenSpec.upto fnExactCountRepairsSpec)

/-- 'laws.FnExactConflictStatistics', WHERE WHAT IT READS IS OF BULK AT MOST 1048576: true; the input reads as it did. -/
def fnExactConflictStatisticsUptoRow : OpenClaim := { program := "ytknnnebjjjldpaa", sum := "f14ba9a66eed6e0d7845253c33325e57f62abbdae56057c449b0719c6a4fae8e", func := "loop.example/g01918/laws.FnExactConflictStatistics", spec := "fnExactConflictStatistics", inPlace := ["internal/bytealg.abigen_runtime_cmpstring"], unfollowed := true, recurses := true, apart := false, narrowed := true }
def FnExactConflictStatisticsUptoSaid : Prop := fnExactConflictStatisticsUptoRow.holds Try.pinned (OpenSpec.upto fnExactConflictStatisticsSpec)

/-- 'laws.FnExactInconsistencyMeasure', WHERE WHAT IT READS IS OF BULK AT MOST 1048576: true; the input reads as it did. -/
def fnExactInconsistencyMeasureUptoRow : OpenClaim := { program := "ytknnnebjjjldpaa", sum := "f14ba9a66eed6e0d7845253c33325e57f62abbdae56057c449b0719c6a4fae8e", func := "loop.example/g01918/laws.FnExactInconsistencyMeasure", spec := "fnExactInconsistencyMeasure", inPlace := ["internal/bytealg.abigen_runtime_cmpstring"], unfollowed := true, recurses := true, apart := false, narrowed := true }
def FnExactInconsistencyMeasureUptoSaid : Prop := fnExactInconsistencyMeasureUptoRow.holds Try.pinned (OpenSpec.upto fnExactInconsistencyMeasureSpec)

/-- 'laws.FnExactAreValidWeights', WHERE WHAT IT READS IS OF BULK AT MOST 1048576: true; the input reads as it did. -/
def fnExactAreValidWeightsUptoRow : OpenClaim := { program := "ytknnnebjjjldpaa", sum := "f14ba9a66eed6e0d7845253c33325e57f62abbdae56057c449b0719c6a4fae8e", func := "loop.example/g01918/laws.FnExactAreValidWeights", spec := "fnExactAreValidWeights", inPlace := ["internal/bytealg.abigen_runtime_cmpstring"], unfollowed := true, recurses := true, apart := false, narrowed := true }
def FnExactAreValidWeightsUptoSaid : Prop := fnExactAreValidWeightsUptoRow.holds Try.pinned (OpenSpec.upto fnExactAreValidWeightsSpec)

/-- 'laws.FnExactRepairWeight', WHERE WHAT IT READS IS OF BULK AT MOST 1048576: true; the input reads as it did. -/
def fnExactRepairWeightUptoRow : OpenClaim := { program := "ytknnnebjjjldpaa", sum := "f14ba9a66eed6e0d7845253c33325e57f62abbdae56057c449b0719c6a4fae8e", func := "loop.example/g01918/laws.FnExactRepairWeight", spec := "fnExactRepairWeight", inPlace := ["internal/bytealg.abigen_runtime_cmpstring"], unfollowed := true, recurses := true, apart := false, narrowed := true }
def FnExactRepairWeightUptoSaid : Prop := fnExactRepairWeightUptoRow.holds Try.pinned (OpenSpec.upto fnExactRepairWeightSpec)

/-- 'laws.FnExactTotalWeight', WHERE WHAT IT READS IS OF BULK AT MOST 1048576: true; the input reads as it did. -/
def fnExactTotalWeightUptoRow : OpenClaim := { program := "ytknnnebjjjldpaa", sum := "f14ba9a66eed6e0d7845253c33325e57f62abbdae56057c449b0719c6a4fae8e", func := "loop.example/g01918/laws.FnExactTotalWeight", spec := "fnExactTotalWeight", inPlace := ["internal/bytealg.abigen_runtime_cmpstring"], unfollowed := true, recurses := true, apart := false, narrowed := true }
def FnExactTotalWeightUptoSaid : Prop := fnExactTotalWeightUptoRow.holds Try.pinned (OpenSpec.upto fnExactTotalWeightSpec)

end Rows
end Go.Proofs.Ytknnnebjjjldpaa
