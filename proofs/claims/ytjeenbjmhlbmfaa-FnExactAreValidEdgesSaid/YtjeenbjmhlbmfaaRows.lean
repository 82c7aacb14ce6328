/-
  No cell of these rows narrows 'for every input' (looked for: loops, veiled, ifaces, maps, wideKeys, modest, calm, conditions, laid).
  DERIVED. THE GIVEN ROWS OF THIS SEAT. 12 by the template 'for every input the law returns true; each argument reads behind the call as it read before'; 0 by the template 'total and deterministic' (their statements: YtjeenbjmhlbmfaaTotals.lean).
  GIVEN WITH THE SEED: the statements are not yours to turn. If you find one false, say at which input.
  Laid BY PROGRAM, IN A SANDBOX (cutbox-rows.mjs): the forced cells as the released guide's own fill.sh prints them over the translation 55f58fb33809c438… (all of the seat's roots in one cut). By AI agents, Wed Nov 11 2026. No macro, syntax, notation, axiom, sorry.
-/
import Derived.Test.YtjeenbjmhlbmfaaChecked
import GoSem.Claim
import GoSem.ClaimJoined
import GoSem.ClaimMapViews
import Derived.JoinedTies
import Derived.KernelRfl
namespace Go.Proofs.Ytjeenbjmhlbmfaa
/- THE CELL 'sum', in the pinned program and in every row, IS THE sha256 OF THE DUMP (.gsa) THAT YtjeenbjmhlbmfaaProg.lean LOADS. Nothing in Lean hashes anything: it is a label: what it is worth is what the hold of that sum in a sandbox is worth. -/
noncomputable def Try.pinned : Pinned := { name := "ytjeenbjmhlbmfaa", sum := "55f58fb33809c43843634f48c21af1363235e51ca57bcfa3acd945df9a98116c", checked := Try.checked }
namespace Rows
def none {H : Type} : Left H := { results := [], args := [] }

/-- 'laws.FnExactKeyOf': WHATEVER THE INPUT: true; the input reads as it did. -/
def fnExactKeyOfSpec : ChangeSpec := { name := "fnExactKeyOf", fn := fun _ => fun
  | [d1, d2] => { results := [.lit (.bool true)], args := [d1, d2] }
  | _ => none }
def fnExactKeyOfRow : OpenClaim := { program := "ytjeenbjmhlbmfaa", sum := "55f58fb33809c43843634f48c21af1363235e51ca57bcfa3acd945df9a98116c", func := "loop.example/g01918/laws.FnExactKeyOf", spec := "fnExactKeyOf", inPlace := ["internal/bytealg.abigen_runtime_cmpstring"], unfollowed := true, recurses := true, apart := false }
def FnExactKeyOfSaid : Prop := fnExactKeyOfRow.holds Try.pinned (OpenSpec.ofChange fnExactKeyOfSpec)

/-- ITS FALSE NEIGHBOUR: 'it returns false'. Refute it at one input. -/
def fnExactKeyOfWrong : ChangeSpec := { name := "fnExactKeyOf", fn := fun _ => fun
  | [d1, d2] => { results := [.lit (.bool false)], args := [d1, d2] }
  | _ => none }
def FnExactKeyOfWrongFalsely : Prop := fnExactKeyOfRow.holds Try.pinned (OpenSpec.ofChange fnExactKeyOfWrong)

/-- 'laws.FnExactEqualDatabases': WHATEVER THE INPUT: true; the input reads as it did. -/
def fnExactEqualDatabasesSpec : ChangeSpec := { name := "fnExactEqualDatabases", fn := fun _ => fun
  | [d1, d2] => { results := [.lit (.bool true)], args := [d1, d2] }
  | _ => none }
def fnExactEqualDatabasesRow : OpenClaim := { program := "ytjeenbjmhlbmfaa", sum := "55f58fb33809c43843634f48c21af1363235e51ca57bcfa3acd945df9a98116c", func := "loop.example/g01918/laws.FnExactEqualDatabases", spec := "fnExactEqualDatabases", unfollowed := true, recurses := true, apart := false }
def FnExactEqualDatabasesSaid : Prop := fnExactEqualDatabasesRow.holds Try.pinned (OpenSpec.ofChange fnExactEqualDatabasesSpec)

/-- ITS FALSE NEIGHBOUR: 'it returns false'. Refute it at one input. -/
def fnExactEqualDatabasesWrong : ChangeSpec := { name := "fnExactEqualDatabases", fn := fun _ => fun
  | [d1, d2] => { results := [.lit (.bool false)], args := [d1, d2] }
  | _ => none }
def FnExactEqualDatabasesWrongFalsely : Prop := fnExactEqualDatabasesRow.holds Try.pinned (OpenSpec.ofChange fnExactEqualDatabasesWrong)

/-- 'laws.FnExactBlocks': WHATEVER THE INPUT: true; the input reads as it did. -/
def fnExactBlocksSpec : ChangeSpec := { name := "fnExactBlocks", fn := fun _ => fun
  | [d] => { results := [.lit (.bool true)], args := [d] }
  | _ => none }
def fnExactBlocksRow : OpenClaim := { program := "ytjeenbjmhlbmfaa", sum := "55f58fb33809c43843634f48c21af1363235e51ca57bcfa3acd945df9a98116c", func := "loop.example/g01918/laws.FnExactBlocks", spec := "fnExactBlocks", inPlace := ["internal/bytealg.abigen_runtime_cmpstring"], unfollowed := true, recurses := true, apart := false }
def FnExactBlocksSaid : Prop := fnExactBlocksRow.holds Try.pinned (OpenSpec.ofChange fnExactBlocksSpec)

/-- ITS FALSE NEIGHBOUR: 'it returns false'. Refute it at one input. -/
def fnExactBlocksWrong : ChangeSpec := { name := "fnExactBlocks", fn := fun _ => fun
  | [d] => { results := [.lit (.bool false)], args := [d] }
  | _ => none }
def FnExactBlocksWrongFalsely : Prop := fnExactBlocksRow.holds Try.pinned (OpenSpec.ofChange fnExactBlocksWrong)

/-- 'laws.FnExactBlockSizes': WHATEVER THE INPUT: true; the input reads as it did. -/
def fnExactBlockSizesSpec : ChangeSpec := { name := "fnExactBlockSizes", fn := fun _ => fun
  | [d] => { results := [.lit (.bool true)], args := [d] }
  | _ => none }
def fnExactBlockSizesRow : OpenClaim := { program := "ytjeenbjmhlbmfaa", sum := "55f58fb33809c43843634f48c21af1363235e51ca57bcfa3acd945df9a98116c", func := "loop.example/g01918/laws.FnExactBlockSizes", spec := "fnExactBlockSizes", inPlace := ["internal/bytealg.abigen_runtime_cmpstring"], unfollowed := true, recurses := true, apart := false }
def FnExactBlockSizesSaid : Prop := fnExactBlockSizesRow.holds Try.pinned (OpenSpec.ofChange fnExactBlockSizesSpec)

/-- ITS FALSE NEIGHBOUR: 'it returns false'. Refute it at one input. -/
def fnExactBlockSizesWrong : ChangeSpec := { name := "fnExactBlockSizes", fn := fun _ => fun
  | [d] => { results := [.lit (.bool false)], args := [d] }
  | _ => none }
def FnExactBlockSizesWrongFalsely : Prop := fnExactBlockSizesRow.holds Try.pinned (OpenSpec.ofChange fnExactBlockSizesWrong)

/-- 'laws.FnExactBlockOf': WHATEVER THE INPUT: true; the input reads as it did. -/
def fnExactBlockOfSpec : ChangeSpec := { name := "fnExactBlockOf", fn := fun _ => fun
  | [d1, d2] => { results := [.lit (.bool true)], args := [d1, d2] }
  | _ => none }
def fnExactBlockOfRow : OpenClaim := { program := "ytjeenbjmhlbmfaa", sum := "55f58fb33809c43843634f48c21af1363235e51ca57bcfa3acd945df9a98116c", func := "loop.example/g01918/laws.FnExactBlockOf", spec := "fnExactBlockOf", inPlace := ["internal/bytealg.abigen_runtime_cmpstring"], unfollowed := true, recurses := true, apart := false }
def FnExactBlockOfSaid : Prop := fnExactBlockOfRow.holds Try.pinned (OpenSpec.ofChange fnExactBlockOfSpec)

/-- ITS FALSE NEIGHBOUR: 'it returns false'. Refute it at one input. -/
def fnExactBlockOfWrong : ChangeSpec := { name := "fnExactBlockOf", fn := fun _ => fun
  | [d1, d2] => { results := [.lit (.bool false)], args := [d1, d2] }
  | _ => none }
def FnExactBlockOfWrongFalsely : Prop := fnExactBlockOfRow.holds Try.pinned (OpenSpec.ofChange fnExactBlockOfWrong)

/-- 'laws.FnExactConflictingFacts': WHATEVER THE INPUT: true; the input reads as it did. -/
def fnExactConflictingFactsSpec : ChangeSpec := { name := "fnExactConflictingFacts", fn := fun _ => fun
  | [d] => { results := [.lit (.bool true)], args := [d] }
  | _ => none }
def fnExactConflictingFactsRow : OpenClaim := { program := "ytjeenbjmhlbmfaa", sum := "55f58fb33809c43843634f48c21af1363235e51ca57bcfa3acd945df9a98116c", func := "loop.example/g01918/laws.FnExactConflictingFacts", spec := "fnExactConflictingFacts", inPlace := ["internal/bytealg.abigen_runtime_cmpstring"], unfollowed := true, recurses := true, apart := false }
def FnExactConflictingFactsSaid : Prop := fnExactConflictingFactsRow.holds Try.pinned (OpenSpec.ofChange fnExactConflictingFactsSpec)

/-- ITS FALSE NEIGHBOUR: 'it returns false'. Refute it at one input. -/
def fnExactConflictingFactsWrong : ChangeSpec := { name := "fnExactConflictingFacts", fn := fun _ => fun
  | [d] => { results := [.lit (.bool false)], args := [d] }
  | _ => none }
def FnExactConflictingFactsWrongFalsely : Prop := fnExactConflictingFactsRow.holds Try.pinned (OpenSpec.ofChange fnExactConflictingFactsWrong)

/-- 'laws.FnExactIsConsistent': WHATEVER THE INPUT: true; the input reads as it did. -/
def fnExactIsConsistentSpec : ChangeSpec := { name := "fnExactIsConsistent", fn := fun _ => fun
  | [d] => { results := [.lit (.bool true)], args := [d] }
  | _ => none }
def fnExactIsConsistentRow : OpenClaim := { program := "ytjeenbjmhlbmfaa", sum := "55f58fb33809c43843634f48c21af1363235e51ca57bcfa3acd945df9a98116c", func := "loop.example/g01918/laws.FnExactIsConsistent", spec := "fnExactIsConsistent", inPlace := ["internal/bytealg.abigen_runtime_cmpstring"], unfollowed := true, recurses := true, apart := false }
def FnExactIsConsistentSaid : Prop := fnExactIsConsistentRow.holds Try.pinned (OpenSpec.ofChange fnExactIsConsistentSpec)

/-- ITS FALSE NEIGHBOUR: 'it returns false'. Refute it at one input. -/
def fnExactIsConsistentWrong : ChangeSpec := { name := "fnExactIsConsistent", fn := fun _ => fun
  | [d] => { results := [.lit (.bool false)], args := [d] }
  | _ => none }
def FnExactIsConsistentWrongFalsely : Prop := fnExactIsConsistentRow.holds Try.pinned (OpenSpec.ofChange fnExactIsConsistentWrong)

/-- 'laws.FnExactCountRepairs': WHATEVER THE INPUT: true; the input reads as it did. -/
def fnExactCountRepairsSpec : ChangeSpec := { name := "fnExactCountRepairs", fn := fun _ => fun
  | [d] => { results := [.lit (.bool true)], args := [d] }
  | _ => none }
def fnExactCountRepairsRow : OpenClaim := { program := "ytjeenbjmhlbmfaa", sum := "55f58fb33809c43843634f48c21af1363235e51ca57bcfa3acd945df9a98116c", func := "loop.example/g01918/laws.FnExactCountRepairs", spec := "fnExactCountRepairs", inPlace := ["internal/bytealg.abigen_runtime_cmpstring"], unfollowed := true, recurses := true, apart := false }
def FnExactCountRepairsSaid : Prop := fnExactCountRepairsRow.holds Try.pinned (OpenSpec.ofChange fnExactCountRepairsSpec)

/-- ITS FALSE NEIGHBOUR: 'it returns false'. Refute it at one input. -/
def fnExactCountRepairsWrong : ChangeSpec := { name := "fnExactCountRepairs", fn := fun _ => fun
  | [d] => { results := [.lit (.bool false)], args := [d] }
  | _ => none }
def FnExactCountRepairsWrongFalsely : Prop := fnExactCountRepairsRow.holds Try.pinned (OpenSpec.ofChange fnExactCountRepairsWrong)

/-- 'laws.FnExactIsValidConstraint': WHATEVER THE INPUT: true; the input reads as it did. -/
def fnExactIsValidConstraintSpec : ChangeSpec := { name := "fnExactIsValidConstraint", fn := fun _ => fun
  | [d1, d2] => { results := [.lit (.bool true)], args := [d1, d2] }
  | _ => none }
def fnExactIsValidConstraintRow : OpenClaim := { program := "ytjeenbjmhlbmfaa", sum := "55f58fb33809c43843634f48c21af1363235e51ca57bcfa3acd945df9a98116c", func := "loop.example/g01918/laws.FnExactIsValidConstraint", spec := "fnExactIsValidConstraint", inPlace := ["internal/bytealg.abigen_runtime_cmpstring"], unfollowed := true, recurses := true, apart := false }
def FnExactIsValidConstraintSaid : Prop := fnExactIsValidConstraintRow.holds Try.pinned (OpenSpec.ofChange fnExactIsValidConstraintSpec)

/-- ITS FALSE NEIGHBOUR: 'it returns false'. Refute it at one input. -/
def fnExactIsValidConstraintWrong : ChangeSpec := { name := "fnExactIsValidConstraint", fn := fun _ => fun
  | [d1, d2] => { results := [.lit (.bool false)], args := [d1, d2] }
  | _ => none }
def FnExactIsValidConstraintWrongFalsely : Prop := fnExactIsValidConstraintRow.holds Try.pinned (OpenSpec.ofChange fnExactIsValidConstraintWrong)

/-- 'laws.FnExactViolatesConstraint': WHATEVER THE INPUT: true; the input reads as it did. -/
def fnExactViolatesConstraintSpec : ChangeSpec := { name := "fnExactViolatesConstraint", fn := fun _ => fun
  | [d1, d2, d3, d4] => { results := [.lit (.bool true)], args := [d1, d2, d3, d4] }
  | _ => none }
def fnExactViolatesConstraintRow : OpenClaim := { program := "ytjeenbjmhlbmfaa", sum := "55f58fb33809c43843634f48c21af1363235e51ca57bcfa3acd945df9a98116c", func := "loop.example/g01918/laws.FnExactViolatesConstraint", spec := "fnExactViolatesConstraint", inPlace := ["internal/bytealg.abigen_runtime_cmpstring"], unfollowed := true, recurses := true, apart := false }
def FnExactViolatesConstraintSaid : Prop := fnExactViolatesConstraintRow.holds Try.pinned (OpenSpec.ofChange fnExactViolatesConstraintSpec)

/-- ITS FALSE NEIGHBOUR: 'it returns false'. Refute it at one input. -/
def fnExactViolatesConstraintWrong : ChangeSpec := { name := "fnExactViolatesConstraint", fn := fun _ => fun
  | [d1, d2, d3, d4] => { results := [.lit (.bool false)], args := [d1, d2, d3, d4] }
  | _ => none }
def FnExactViolatesConstraintWrongFalsely : Prop := fnExactViolatesConstraintRow.holds Try.pinned (OpenSpec.ofChange fnExactViolatesConstraintWrong)

/-- 'laws.FnExactAreValidEdges': WHATEVER THE INPUT: true; the input reads as it did. -/
def fnExactAreValidEdgesSpec : ChangeSpec := { name := "fnExactAreValidEdges", fn := fun _ => fun
  | [d1, d2] => { results := [.lit (.bool true)], args := [d1, d2] }
  | _ => none }
def fnExactAreValidEdgesRow : OpenClaim := { program := "ytjeenbjmhlbmfaa", sum := "55f58fb33809c43843634f48c21af1363235e51ca57bcfa3acd945df9a98116c", func := "loop.example/g01918/laws.FnExactAreValidEdges", spec := "fnExactAreValidEdges", unfollowed := true, recurses := true, apart := false }
def FnExactAreValidEdgesSaid : Prop := fnExactAreValidEdgesRow.holds Try.pinned (OpenSpec.ofChange fnExactAreValidEdgesSpec)

/-- ITS FALSE NEIGHBOUR: 'it returns false'. Refute it at one input. -/
def fnExactAreValidEdgesWrong : ChangeSpec := { name := "fnExactAreValidEdges", fn := fun _ => fun
  | [d1, d2] => { results := [.lit (.bool false)], args := [d1, d2] }
  | _ => none }
def FnExactAreValidEdgesWrongFalsely : Prop := fnExactAreValidEdgesRow.holds Try.pinned (OpenSpec.ofChange fnExactAreValidEdgesWrong)

/-- 'laws.FnExactEqualQueries': WHATEVER THE INPUT: true; the input reads as it did. -/
def fnExactEqualQueriesSpec : ChangeSpec := { name := "fnExactEqualQueries", fn := fun _ => fun
  | [d1, d2] => { results := [.lit (.bool true)], args := [d1, d2] }
  | _ => none }
def fnExactEqualQueriesRow : OpenClaim := { program := "ytjeenbjmhlbmfaa", sum := "55f58fb33809c43843634f48c21af1363235e51ca57bcfa3acd945df9a98116c", func := "loop.example/g01918/laws.FnExactEqualQueries", spec := "fnExactEqualQueries", unfollowed := true, recurses := true, apart := false }
def FnExactEqualQueriesSaid : Prop := fnExactEqualQueriesRow.holds Try.pinned (OpenSpec.ofChange fnExactEqualQueriesSpec)

/-- ITS FALSE NEIGHBOUR: 'it returns false'. Refute it at one input. -/
def fnExactEqualQueriesWrong : ChangeSpec := { name := "fnExactEqualQueries", fn := fun _ => fun
  | [d1, d2] => { results := [.lit (.bool false)], args := [d1, d2] }
  | _ => none }
def FnExactEqualQueriesWrongFalsely : Prop := fnExactEqualQueriesRow.holds Try.pinned (OpenSpec.ofChange fnExactEqualQueriesWrong)

/- THE SECOND FORM. 'bulk': how many values and letters a reading holds, each counted each time it is reached (what is shared counts as often as it is met; a slice's spare places count too). A statement '..UptoSaid' is the law's where the arguments, and the package variables that the reading takes, are together of bulk at most 1048576: NARROWER than '..Said'. Prove '..Said' where nothing that the law and all that it calls make is longer than what came in: it says more and counts as full. Else prove '..UptoSaid'. A law counts once. -/
mutual
def uptoBulk {H : Type} : DataW H → Nat
  | .lit (.string bytes) => bytes.length + 1
  | .lit _ => 1
  | .nil => 1
  | .ptr d => uptoBulk d + 1
  | .slice elems spare => uptoBulkAll elems + uptoBulkAll spare + 1
  | .agg parts => uptoBulkAll parts + 1
  | .iface _ d => uptoBulk d + 1
  | .map entries => uptoBulkEntries entries + 1
  | .held _ => 1
def uptoBulkAll {H : Type} : List (DataW H) → Nat
  | [] => 0
  | d :: r => uptoBulk d + uptoBulkAll r
def uptoBulkEntries {H : Type} : List (Lit × DataW H) → Nat
  | [] => 0
  | x :: r => uptoBulkEntry x + uptoBulkEntries r
def uptoBulkEntry {H : Type} : Lit × DataW H → Nat
  | (.string bytes, d) => bytes.length + uptoBulk d + 1
  | (_, d) => uptoBulk d + 1
 end
def uptoSmall : (H : Type) → List (DataW H) → Bool := fun _ ds => decide (uptoBulkAll ds ≤ 1048576)
def OpenSpec.upto (s : _root_.Go.ChangeSpec) : _root_.Go.OpenSpec := { _root_.Go.OpenSpec.ofChange s with cond := some uptoSmall }

/-- 'laws.FnExactKeyOf', WHERE WHAT IT READS IS OF BULK AT MOST 1048576: true; the input reads as it did. -/
def fnExactKeyOfUptoRow : OpenClaim := { program := "ytjeenbjmhlbmfaa", sum := "55f58fb33809c43843634f48c21af1363235e51ca57bcfa3acd945df9a98116c", func := "loop.example/g01918/laws.FnExactKeyOf", spec := "fnExactKeyOf", inPlace := ["internal/bytealg.abigen_runtime_cmpstring"], unfollowed := true, recurses := true, apart := false, narrowed := true }
def FnExactKeyOfUptoSaid : Prop := fnExactKeyOfUptoRow.holds Try.pinned (OpenSpec.upto fnExactKeyOfSpec)

/-- 'laws.FnExactEqualDatabases', WHERE WHAT IT READS IS OF BULK AT MOST 1048576: true; the input reads as it did. -/
def fnExactEqualDatabasesUptoRow : OpenClaim := { program := "ytjeenbjmhlbmfaa", sum := "55f58fb33809c43843634f48c21af1363235e51ca57bcfa3acd945df9a98116c", func := "loop.example/g01918/laws.FnExactEqualDatabases", spec := "fnExactEqualDatabases", unfollowed := true, recurses := true, apart := false, narrowed := true }
def FnExactEqualDatabasesUptoSaid : Prop := fnExactEqualDatabasesUptoRow.holds Try.pinned (OpenSpec.upto fnExactEqualDatabasesSpec)

/-- 'laws.FnExactBlocks', WHERE WHAT IT READS IS OF BULK AT MOST 1048576: true; the input reads as it did. -/
def fnExactBlocksUptoRow : OpenClaim := { program := "ytjeenbjmhlbmfaa", sum := "55f58fb33809c43843634f48c21af1363235e51ca57bcfa3acd945df9a98116c", func := "loop.example/g01918/laws.FnExactBlocks", spec := "fnExactBlocks", inPlace := ["internal/bytealg.abigen_runtime_cmpstring"], unfollowed := true, recurses := true, apart := false, narrowed := true }
def FnExactBlocksUptoSaid : Prop := fnExactBlocksUptoRow.holds Try.pinned (OpenSpec.upto fnExactBlocksSpec)

/-- 'laws.FnExactBlockSizes', WHERE WHAT IT READS IS OF BULK AT MOST 1048576: true; the input reads as it did. -/
def fnExactBlockSizesUptoRow : OpenClaim := { program := "ytjeenbjmhlbmfaa", sum := "55f58fb33809c43843634f48c21af1363235e51ca57bcfa3acd945df9a98116c", func := "loop.example/g01918/laws.FnExactBlockSizes", spec := "fnExactBlockSizes", inPlace := ["internal/bytealg.abigen_runtime_cmpstring"], unfollowed := true, recurses := true, apart := false, narrowed := true }
def FnExactBlockSizesUptoSaid : Prop := fnExactBlockSizesUptoRow.holds Try.pinned (OpenSpec.upto fnExactBlockSizesSpec)

/-- 'laws.FnExactBlockOf', WHERE WHAT IT READS IS OF BULK AT MOST 1048576: true; the input reads as it did. -/
def fnExactBlockOfUptoRow : OpenClaim := { program := "ytjeenbjmhlbmfaa", sum := "55f58fb33809c43843634f48c21af1363235e51ca57bcfa3acd945df9a98116c", func := "loop.example/g01918/laws.FnExactBlockOf", spec := "fnExactBlockOf", inPlace := ["internal/bytealg.abigen_runtime_cmpstring"], unfollowed := true, recurses := true, apart := false, narrowed := true }
def FnExactBlockOfUptoSaid : Prop := fnExactBlockOfUptoRow.holds Try.pinned (OpenSpec.upto fnExactBlockOfSpec)

/-- 'laws.FnExactConflictingFacts', WHERE WHAT IT READS IS OF BULK AT MOST 1048576: true; the input reads as it did. -/
def fnExactConflictingFactsUptoRow : OpenClaim := { program := "ytjeenbjmhlbmfaa", sum := "55f58fb33809c43843634f48c21af1363235e51ca57bcfa3acd945df9a98116c", func := "loop.example/g01918/laws.FnExactConflictingFacts", spec := "fnExactConflictingFacts", inPlace := ["internal/bytealg.abigen_runtime_cmpstring"], unfollowed := true, recurses := true, apart := false, narrowed := true }
def FnExactConflictingFactsUptoSaid : Prop := fnExactConflictingFactsUptoRow.holds Try.pinned (OpenSpec.upto fnExactConflictingFactsSpec)

/-- 'laws.FnExactIsConsistent', WHERE WHAT IT READS IS OF BULK AT MOST 1048576: true; the input reads as it did. -/
def fnExactIsConsistentUptoRow : OpenClaim := { program := "ytjeenbjmhlbmfaa", sum := "55f58fb33809c43843634f48c21af1363235e51ca57bcfa3acd945df9a98116c", func := "loop.example/g01918/laws.FnExactIsConsistent", spec := "fnExactIsConsistent", inPlace := ["internal/bytealg.abigen_runtime_cmpstring"], unfollowed := true, recurses := true, apart := false, narrowed := true }
def FnExactIsConsistentUptoSaid : Prop := fnExactIsConsistentUptoRow.holds Try.pinned (OpenSpec.upto fnExactIsConsistentSpec)

/-- 'laws.FnExactCountRepairs', WHERE WHAT IT READS IS OF BULK AT MOST 1048576: true; the input reads as it did. -/
def fnExactCountRepairsUptoRow : OpenClaim := { program := "ytjeenbjmhlbmfaa", sum := "55f58fb33809c43843634f48c21af1363235e51ca57bcfa3acd945df9a98116c", func := "loop.example/g01918/laws.FnExactCountRepairs", spec := "fnExactCountRepairs", inPlace := ["internal/bytealg.abigen_runtime_cmpstring"], unfollowed := true, recurses := true, apart := false, narrowed := true }
def FnExactCountRepairsUptoSaid : Prop := fnExactCountRepairsUptoRow.holds Try.pinned (OpenSpec.upto fnExactCountRepairsSpec)

/-- 'laws.FnExactIsValidConstraint', WHERE WHAT IT READS IS OF BULK AT MOST 1048576: true; the input reads as it did. -/
def fnExactIsValidConstraintUptoRow : OpenClaim := { program := "ytjeenbjmhlbmfaa", sum := "55f58fb33809c43843634f48c21af1363235e51ca57bcfa3acd945df9a98116c", func := "loop.example/g01918/laws.FnExactIsValidConstraint", spec := "fnExactIsValidConstraint", inPlace := ["internal/bytealg.abigen_runtime_cmpstring"], unfollowed := true, recurses := true, apart := false, narrowed := true }
def FnExactIsValidConstraintUptoSaid : Prop := fnExactIsValidConstraintUptoRow.holds Try.pinned (OpenSpec.upto fnExactIsValidConstraintSpec)

/-- 'laws.FnExactViolatesConstraint', WHERE WHAT IT READS IS OF BULK AT MOST 1048576: true; the input reads as it did. -/
def fnExactViolatesConstraintUptoRow : OpenClaim := { program := "ytjeenbjmhlbmfaa", sum := "55f58fb33809c43843634f48c21af1363235e51ca57bcfa3acd945df9a98116c", func := "loop.example/g01918/laws.FnExactViolatesConstraint", spec := "fnExactViolatesConstraint", inPlace := ["internal/bytealg.abigen_runtime_cmpstring"], unfollowed := true, recurses := true, apart := false, narrowed := true }
def FnExactViolatesConstraintUptoSaid : Prop := fnExactViolatesConstraintUptoRow.holds Try.pinned (OpenSpec.upto fnExactViolatesConstraintSpec)

/-- 'laws.FnExactAreValidEdges', WHERE WHAT IT READS IS OF BULK AT MOST 1048576: true; the input reads as it did. -/
def fnExactAreValidEdgesUptoRow : OpenClaim := { program := "ytjeenbjmhlbmfaa", sum := "55f58fb33809c43843634f48c21af1363235e51ca57bcfa3acd945df9a98116c", func := "loop.example/g01918/laws.FnExactAreValidEdges", spec := "fnExactAreValidEdges", unfollowed := true, recurses := true, apart := false, narrowed := true }
def FnExactAreValidEdgesUptoSaid : Prop := fnExactAreValidEdgesUptoRow.holds Try.pinned (OpenSpec.upto fnExactAreValidEdgesSpec)

/-- 'laws.FnExactEqualQueries', WHERE WHAT IT READS IS OF BULK AT MOST 1048576: true; the input reads as it did. -/
def fnExactEqualQueriesUptoRow : OpenClaim := { program := "ytjeenbjmhlbmfaa", sum := "55f58fb33809c43843634f48c21af1363235e51ca57bcfa3acd945df9a98116c", func := "loop.example/g01918/laws.FnExactEqualQueries", spec := "fnExactEqualQueries", unfollowed := true, recurses := true, apart := false, narrowed := true }
def FnExactEqualQueriesUptoSaid : Prop := fnExactEqualQueriesUptoRow.holds Try.pinned (OpenSpec.upto fnExactEqualQueriesSpec)

end Rows
end Go.Proofs.Ytjeenbjmhlbmfaa
