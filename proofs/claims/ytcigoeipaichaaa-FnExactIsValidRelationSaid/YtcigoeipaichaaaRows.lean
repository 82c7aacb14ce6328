/-
  No cell of these rows narrows 'for every input' (looked for: loops, veiled, ifaces, maps, wideKeys, modest, calm, conditions, laid).
  DERIVED. THE GIVEN ROWS OF THIS SEAT. 12 by the template 'for every input the law returns true; each argument reads behind the call as it read before'; 0 by the template 'total and deterministic' (their statements: YtcigoeipaichaaaTotals.lean).
  GIVEN WITH THE SEED: the statements are not yours to turn. If you find one false, say at which input.
  Laid BY PROGRAM, IN A SANDBOX (cutbox-rows.mjs): the forced cells as the released guide's own fill.sh prints them over the translation 5dc4c23f3a4549c8… (all of the seat's roots in one cut). By AI agents, Wed Nov 11 2026. No macro, syntax, notation, axiom, sorry.
-/
import Derived.Test.YtcigoeipaichaaaChecked
import GoSem.Claim
import GoSem.ClaimJoined
import GoSem.ClaimMapViews
import Derived.JoinedTies
import Derived.KernelRfl
namespace Go.Proofs.Ytcigoeipaichaaa
/- THE CELL 'sum', in the pinned program and in every row, IS THE sha256 OF THE DUMP (.gsa) THAT YtcigoeipaichaaaProg.lean LOADS. Nothing in Lean hashes anything: it is a label: what it is worth is what the hold of that sum in a sandbox is worth. -/
noncomputable def Try.pinned : Pinned := { name := "ytcigoeipaichaaa", sum := "5dc4c23f3a4549c87f5072155a402d19e9c99e50d353401e03bdbdb4e8a5abd5", checked := Try.checked }
namespace Rows
def none {H : Type} : Left H := { results := [], args := [] }

/-- 'laws.FnExactIsValidRelation': WHATEVER THE INPUT: true; the input reads as it did. -/
def fnExactIsValidRelationSpec : ChangeSpec := { name := "fnExactIsValidRelation", fn := fun _ => fun
  | [d] => { results := [.lit (.bool true)], args := [d] }
  | _ => none }
def fnExactIsValidRelationRow : OpenClaim := { program := "ytcigoeipaichaaa", sum := "5dc4c23f3a4549c87f5072155a402d19e9c99e50d353401e03bdbdb4e8a5abd5", func := "loop.example/g01918/laws.FnExactIsValidRelation", spec := "fnExactIsValidRelation", apart := false }
def FnExactIsValidRelationSaid : Prop := fnExactIsValidRelationRow.holds Try.pinned (OpenSpec.ofChange fnExactIsValidRelationSpec)

/-- ITS FALSE NEIGHBOUR: 'it returns false'. Refute it at one input. -/
def fnExactIsValidRelationWrong : ChangeSpec := { name := "fnExactIsValidRelation", fn := fun _ => fun
  | [d] => { results := [.lit (.bool false)], args := [d] }
  | _ => none }
def FnExactIsValidRelationWrongFalsely : Prop := fnExactIsValidRelationRow.holds Try.pinned (OpenSpec.ofChange fnExactIsValidRelationWrong)

/-- 'laws.FnExactAreValidRelations': WHATEVER THE INPUT: true; the input reads as it did. -/
def fnExactAreValidRelationsSpec : ChangeSpec := { name := "fnExactAreValidRelations", fn := fun _ => fun
  | [d] => { results := [.lit (.bool true)], args := [d] }
  | _ => none }
def fnExactAreValidRelationsRow : OpenClaim := { program := "ytcigoeipaichaaa", sum := "5dc4c23f3a4549c87f5072155a402d19e9c99e50d353401e03bdbdb4e8a5abd5", func := "loop.example/g01918/laws.FnExactAreValidRelations", spec := "fnExactAreValidRelations", inPlace := ["internal/bytealg.abigen_runtime_cmpstring"], unfollowed := true, recurses := true, apart := false }
def FnExactAreValidRelationsSaid : Prop := fnExactAreValidRelationsRow.holds Try.pinned (OpenSpec.ofChange fnExactAreValidRelationsSpec)

/-- ITS FALSE NEIGHBOUR: 'it returns false'. Refute it at one input. -/
def fnExactAreValidRelationsWrong : ChangeSpec := { name := "fnExactAreValidRelations", fn := fun _ => fun
  | [d] => { results := [.lit (.bool false)], args := [d] }
  | _ => none }
def FnExactAreValidRelationsWrongFalsely : Prop := fnExactAreValidRelationsRow.holds Try.pinned (OpenSpec.ofChange fnExactAreValidRelationsWrong)

/-- 'laws.FnExactRelationIndex': WHATEVER THE INPUT: true; the input reads as it did. -/
def fnExactRelationIndexSpec : ChangeSpec := { name := "fnExactRelationIndex", fn := fun _ => fun
  | [d1, d2] => { results := [.lit (.bool true)], args := [d1, d2] }
  | _ => none }
def fnExactRelationIndexRow : OpenClaim := { program := "ytcigoeipaichaaa", sum := "5dc4c23f3a4549c87f5072155a402d19e9c99e50d353401e03bdbdb4e8a5abd5", func := "loop.example/g01918/laws.FnExactRelationIndex", spec := "fnExactRelationIndex", apart := false }
def FnExactRelationIndexSaid : Prop := fnExactRelationIndexRow.holds Try.pinned (OpenSpec.ofChange fnExactRelationIndexSpec)

/-- ITS FALSE NEIGHBOUR: 'it returns false'. Refute it at one input. -/
def fnExactRelationIndexWrong : ChangeSpec := { name := "fnExactRelationIndex", fn := fun _ => fun
  | [d1, d2] => { results := [.lit (.bool false)], args := [d1, d2] }
  | _ => none }
def FnExactRelationIndexWrongFalsely : Prop := fnExactRelationIndexRow.holds Try.pinned (OpenSpec.ofChange fnExactRelationIndexWrong)

/-- 'laws.FnExactIsValidFact': WHATEVER THE INPUT: true; the input reads as it did. -/
def fnExactIsValidFactSpec : ChangeSpec := { name := "fnExactIsValidFact", fn := fun _ => fun
  | [d1, d2] => { results := [.lit (.bool true)], args := [d1, d2] }
  | _ => none }
def fnExactIsValidFactRow : OpenClaim := { program := "ytcigoeipaichaaa", sum := "5dc4c23f3a4549c87f5072155a402d19e9c99e50d353401e03bdbdb4e8a5abd5", func := "loop.example/g01918/laws.FnExactIsValidFact", spec := "fnExactIsValidFact", inPlace := ["internal/bytealg.abigen_runtime_cmpstring"], unfollowed := true, recurses := true, apart := false }
def FnExactIsValidFactSaid : Prop := fnExactIsValidFactRow.holds Try.pinned (OpenSpec.ofChange fnExactIsValidFactSpec)

/-- ITS FALSE NEIGHBOUR: 'it returns false'. Refute it at one input. -/
def fnExactIsValidFactWrong : ChangeSpec := { name := "fnExactIsValidFact", fn := fun _ => fun
  | [d1, d2] => { results := [.lit (.bool false)], args := [d1, d2] }
  | _ => none }
def FnExactIsValidFactWrongFalsely : Prop := fnExactIsValidFactRow.holds Try.pinned (OpenSpec.ofChange fnExactIsValidFactWrong)

/-- 'laws.FnExactCompareFacts': WHATEVER THE INPUT: true; the input reads as it did. -/
def fnExactCompareFactsSpec : ChangeSpec := { name := "fnExactCompareFacts", fn := fun _ => fun
  | [d1, d2] => { results := [.lit (.bool true)], args := [d1, d2] }
  | _ => none }
def fnExactCompareFactsRow : OpenClaim := { program := "ytcigoeipaichaaa", sum := "5dc4c23f3a4549c87f5072155a402d19e9c99e50d353401e03bdbdb4e8a5abd5", func := "loop.example/g01918/laws.FnExactCompareFacts", spec := "fnExactCompareFacts", apart := false }
def FnExactCompareFactsSaid : Prop := fnExactCompareFactsRow.holds Try.pinned (OpenSpec.ofChange fnExactCompareFactsSpec)

/-- ITS FALSE NEIGHBOUR: 'it returns false'. Refute it at one input. -/
def fnExactCompareFactsWrong : ChangeSpec := { name := "fnExactCompareFacts", fn := fun _ => fun
  | [d1, d2] => { results := [.lit (.bool false)], args := [d1, d2] }
  | _ => none }
def FnExactCompareFactsWrongFalsely : Prop := fnExactCompareFactsRow.holds Try.pinned (OpenSpec.ofChange fnExactCompareFactsWrong)

/-- 'laws.FnExactHaveSameKey': WHATEVER THE INPUT: true; the input reads as it did. -/
def fnExactHaveSameKeySpec : ChangeSpec := { name := "fnExactHaveSameKey", fn := fun _ => fun
  | [d1, d2, d3] => { results := [.lit (.bool true)], args := [d1, d2, d3] }
  | _ => none }
def fnExactHaveSameKeyRow : OpenClaim := { program := "ytcigoeipaichaaa", sum := "5dc4c23f3a4549c87f5072155a402d19e9c99e50d353401e03bdbdb4e8a5abd5", func := "loop.example/g01918/laws.FnExactHaveSameKey", spec := "fnExactHaveSameKey", inPlace := ["internal/bytealg.abigen_runtime_cmpstring"], unfollowed := true, recurses := true, apart := false }
def FnExactHaveSameKeySaid : Prop := fnExactHaveSameKeyRow.holds Try.pinned (OpenSpec.ofChange fnExactHaveSameKeySpec)

/-- ITS FALSE NEIGHBOUR: 'it returns false'. Refute it at one input. -/
def fnExactHaveSameKeyWrong : ChangeSpec := { name := "fnExactHaveSameKey", fn := fun _ => fun
  | [d1, d2, d3] => { results := [.lit (.bool false)], args := [d1, d2, d3] }
  | _ => none }
def FnExactHaveSameKeyWrongFalsely : Prop := fnExactHaveSameKeyRow.holds Try.pinned (OpenSpec.ofChange fnExactHaveSameKeyWrong)

/-- 'laws.FnExactIsValidDatabase': WHATEVER THE INPUT: true; the input reads as it did. -/
def fnExactIsValidDatabaseSpec : ChangeSpec := { name := "fnExactIsValidDatabase", fn := fun _ => fun
  | [d] => { results := [.lit (.bool true)], args := [d] }
  | _ => none }
def fnExactIsValidDatabaseRow : OpenClaim := { program := "ytcigoeipaichaaa", sum := "5dc4c23f3a4549c87f5072155a402d19e9c99e50d353401e03bdbdb4e8a5abd5", func := "loop.example/g01918/laws.FnExactIsValidDatabase", spec := "fnExactIsValidDatabase", inPlace := ["internal/bytealg.abigen_runtime_cmpstring"], unfollowed := true, recurses := true, apart := false }
def FnExactIsValidDatabaseSaid : Prop := fnExactIsValidDatabaseRow.holds Try.pinned (OpenSpec.ofChange fnExactIsValidDatabaseSpec)

/-- ITS FALSE NEIGHBOUR: 'it returns false'. Refute it at one input. -/
def fnExactIsValidDatabaseWrong : ChangeSpec := { name := "fnExactIsValidDatabase", fn := fun _ => fun
  | [d] => { results := [.lit (.bool false)], args := [d] }
  | _ => none }
def FnExactIsValidDatabaseWrongFalsely : Prop := fnExactIsValidDatabaseRow.holds Try.pinned (OpenSpec.ofChange fnExactIsValidDatabaseWrong)

/-- 'laws.FnExactContainsFact': WHATEVER THE INPUT: true; the input reads as it did. -/
def fnExactContainsFactSpec : ChangeSpec := { name := "fnExactContainsFact", fn := fun _ => fun
  | [d1, d2] => { results := [.lit (.bool true)], args := [d1, d2] }
  | _ => none }
def fnExactContainsFactRow : OpenClaim := { program := "ytcigoeipaichaaa", sum := "5dc4c23f3a4549c87f5072155a402d19e9c99e50d353401e03bdbdb4e8a5abd5", func := "loop.example/g01918/laws.FnExactContainsFact", spec := "fnExactContainsFact", inPlace := ["internal/bytealg.abigen_runtime_cmpstring"], unfollowed := true, recurses := true, apart := false }
def FnExactContainsFactSaid : Prop := fnExactContainsFactRow.holds Try.pinned (OpenSpec.ofChange fnExactContainsFactSpec)

/-- ITS FALSE NEIGHBOUR: 'it returns false'. Refute it at one input. -/
def fnExactContainsFactWrong : ChangeSpec := { name := "fnExactContainsFact", fn := fun _ => fun
  | [d1, d2] => { results := [.lit (.bool false)], args := [d1, d2] }
  | _ => none }
def FnExactContainsFactWrongFalsely : Prop := fnExactContainsFactRow.holds Try.pinned (OpenSpec.ofChange fnExactContainsFactWrong)

/-- 'laws.FnExactFactIndex': WHATEVER THE INPUT: true; the input reads as it did. -/
def fnExactFactIndexSpec : ChangeSpec := { name := "fnExactFactIndex", fn := fun _ => fun
  | [d1, d2] => { results := [.lit (.bool true)], args := [d1, d2] }
  | _ => none }
def fnExactFactIndexRow : OpenClaim := { program := "ytcigoeipaichaaa", sum := "5dc4c23f3a4549c87f5072155a402d19e9c99e50d353401e03bdbdb4e8a5abd5", func := "loop.example/g01918/laws.FnExactFactIndex", spec := "fnExactFactIndex", apart := false }
def FnExactFactIndexSaid : Prop := fnExactFactIndexRow.holds Try.pinned (OpenSpec.ofChange fnExactFactIndexSpec)

/-- ITS FALSE NEIGHBOUR: 'it returns false'. Refute it at one input. -/
def fnExactFactIndexWrong : ChangeSpec := { name := "fnExactFactIndex", fn := fun _ => fun
  | [d1, d2] => { results := [.lit (.bool false)], args := [d1, d2] }
  | _ => none }
def FnExactFactIndexWrongFalsely : Prop := fnExactFactIndexRow.holds Try.pinned (OpenSpec.ofChange fnExactFactIndexWrong)

/-- 'laws.FnExactIsVariable': WHATEVER THE INPUT: true; the input reads as it did. -/
def fnExactIsVariableSpec : ChangeSpec := { name := "fnExactIsVariable", fn := fun _ => fun
  | [d] => { results := [.lit (.bool true)], args := [d] }
  | _ => none }
def fnExactIsVariableRow : OpenClaim := { program := "ytcigoeipaichaaa", sum := "5dc4c23f3a4549c87f5072155a402d19e9c99e50d353401e03bdbdb4e8a5abd5", func := "loop.example/g01918/laws.FnExactIsVariable", spec := "fnExactIsVariable", apart := false }
def FnExactIsVariableSaid : Prop := fnExactIsVariableRow.holds Try.pinned (OpenSpec.ofChange fnExactIsVariableSpec)

/-- ITS FALSE NEIGHBOUR: 'it returns false'. Refute it at one input. -/
def fnExactIsVariableWrong : ChangeSpec := { name := "fnExactIsVariable", fn := fun _ => fun
  | [d] => { results := [.lit (.bool false)], args := [d] }
  | _ => none }
def FnExactIsVariableWrongFalsely : Prop := fnExactIsVariableRow.holds Try.pinned (OpenSpec.ofChange fnExactIsVariableWrong)

/-- 'laws.FnExactConstantTerm': WHATEVER THE INPUT: true; the input reads as it did. -/
def fnExactConstantTermSpec : ChangeSpec := { name := "fnExactConstantTerm", fn := fun _ => fun
  | [d] => { results := [.lit (.bool true)], args := [d] }
  | _ => none }
def fnExactConstantTermRow : OpenClaim := { program := "ytcigoeipaichaaa", sum := "5dc4c23f3a4549c87f5072155a402d19e9c99e50d353401e03bdbdb4e8a5abd5", func := "loop.example/g01918/laws.FnExactConstantTerm", spec := "fnExactConstantTerm", apart := false }
def FnExactConstantTermSaid : Prop := fnExactConstantTermRow.holds Try.pinned (OpenSpec.ofChange fnExactConstantTermSpec)

/-- ITS FALSE NEIGHBOUR: 'it returns false'. Refute it at one input. -/
def fnExactConstantTermWrong : ChangeSpec := { name := "fnExactConstantTerm", fn := fun _ => fun
  | [d] => { results := [.lit (.bool false)], args := [d] }
  | _ => none }
def FnExactConstantTermWrongFalsely : Prop := fnExactConstantTermRow.holds Try.pinned (OpenSpec.ofChange fnExactConstantTermWrong)

/-- 'laws.FnExactTermValue': WHATEVER THE INPUT: true; the input reads as it did. -/
def fnExactTermValueSpec : ChangeSpec := { name := "fnExactTermValue", fn := fun _ => fun
  | [d] => { results := [.lit (.bool true)], args := [d] }
  | _ => none }
def fnExactTermValueRow : OpenClaim := { program := "ytcigoeipaichaaa", sum := "5dc4c23f3a4549c87f5072155a402d19e9c99e50d353401e03bdbdb4e8a5abd5", func := "loop.example/g01918/laws.FnExactTermValue", spec := "fnExactTermValue", apart := false }
def FnExactTermValueSaid : Prop := fnExactTermValueRow.holds Try.pinned (OpenSpec.ofChange fnExactTermValueSpec)

/-- ITS FALSE NEIGHBOUR: 'it returns false'. Refute it at one input. -/
def fnExactTermValueWrong : ChangeSpec := { name := "fnExactTermValue", fn := fun _ => fun
  | [d] => { results := [.lit (.bool false)], args := [d] }
  | _ => none }
def FnExactTermValueWrongFalsely : Prop := fnExactTermValueRow.holds Try.pinned (OpenSpec.ofChange fnExactTermValueWrong)

/- THE SECOND FORM. 'bulk': how many values and letters a reading holds, each counted each time it is reached (what is shared counts as often as it is met; a slice's spare places count too). A statement '..UptoSaid' is the law's where the arguments, and the package variables that the reading takes, are together of bulk at most 1048576: NARROWER than '..Said'. Prove '..Said' where nothing that the law and all that it calls make is longer than what came in: it says more and counts as full. Else prove '..UptoSaid'. A law counts once. -/
mutual
def uptoBulk {H : Type} : DataW H → Nat
  | .lit (.string bytes) => bytes.length + 1
  | .lit _ => 1
  | .nil => 1
  | .ptr d => uptoBulk d + 1
  | .slice elems spare => uptoBulkAll elems + uptoBulkAll spare + 1
  | .agg parts => uptoBulkAll parts + 1
  | .iface _ d => uptoBulk d + 1
  | .map entries => uptoBulkEntries entries + 1
  | .held _ => 1
def uptoBulkAll {H : Type} : List (DataW H) → Nat
  | [] => 0
  | d :: r => uptoBulk d + uptoBulkAll r
def uptoBulkEntries {H : Type} : List (Lit × DataW H) → Nat
  | [] => 0
  | x :: r => uptoBulkEntry x + uptoBulkEntries r
def uptoBulkEntry {H : Type} : Lit × DataW H → Nat
  | (.string bytes, d) => bytes.length + uptoBulk d + 1
  | (_, d) => uptoBulk d + 1
 end
def uptoSmall : (H : Type) → List (DataW H) → Bool := fun _ ds => decide (uptoBulkAll ds ≤ 1048576)
def OpenSpec.upto (s : _root_.Go.ChangeSpec) : _root_.Go.OpenSpec := { _root_.Go.OpenSpec.ofChange s with cond := some uptoSmall }

/-- 'laws.FnExactIsValidRelation', WHERE WHAT IT READS IS OF BULK AT MOST 1048576: true; the input reads as it did. -/
def fnExactIsValidRelationUptoRow : OpenClaim := { program := "ytcigoeipaichaaa", sum := "5dc4c23f3a4549c87f5072155a402d19e9c99e50d353401e03bdbdb4e8a5abd5", func := "loop.example/g01918/laws.FnExactIsValidRelation", spec := "fnExactIsValidRelation", apart := false, narrowed := true }
def FnExactIsValidRelationUptoSaid : Prop := fnExactIsValidRelationUptoRow.holds Try.pinned (OpenSpec.upto fnExactIsValidRelationSpec)

/-- 'laws.FnExactAreValidRelations', WHERE WHAT IT READS IS OF BULK AT MOST 1048576: true; the input reads as it did. -/
def fnExactAreValidRelationsUptoRow : OpenClaim := { program := "ytcigoeipaichaaa", sum := "5dc4c23f3a4549c87f5072155a402d19e9c99e50d353401e03bdbdb4e8a5abd5", func := "loop.example/g01918/laws.FnExactAreValidRelations", spec := "fnExactAreValidRelations", inPlace := ["internal/bytealg.abigen_runtime_cmpstring"], unfollowed := true, recurses := true, apart := false, narrowed := true }
def FnExactAreValidRelationsUptoSaid : Prop := fnExactAreValidRelationsUptoRow.holds Try.pinned (OpenSpec.upto fnExactAreValidRelationsSpec)

/-- 'laws.FnExactRelationIndex', WHERE WHAT IT READS IS OF BULK AT MOST 1048576: true; the input reads as it did. -/
def fnExactRelationIndexUptoRow : OpenClaim := { program := "ytcigoeipaichaaa", sum := "5dc4c23f3a4549c87f5072155a402d19e9c99e50d353401e03bdbdb4e8a5abd5", func := "loop.example/g01918/laws.FnExactRelationIndex", spec := "fnExactRelationIndex", apart := false, narrowed := true }
def FnExactRelationIndexUptoSaid : Prop := fnExactRelationIndexUptoRow.holds Try.pinned (OpenSpec.upto fnExactRelationIndexSpec)

/-- 'laws.FnExactIsValidFact', WHERE WHAT IT READS IS OF BULK AT MOST 1048576: true; the input reads as it did. -/
def fnExactIsValidFactUptoRow : OpenClaim := { program := "ytcigoeipaichaaa", sum := "5dc4c23f3a4549c87f5072155a402d19e9c99e50d353401e03bdbdb4e8a5abd5", func := "loop.example/g01918/laws.FnExactIsValidFact", spec := "fnExactIsValidFact", inPlace := ["internal/bytealg.abigen_runtime_cmpstring"], unfollowed := true, recurses := true, apart := false, narrowed := true }
def FnExactIsValidFactUptoSaid : Prop := fnExactIsValidFactUptoRow.holds Try.pinned (OpenSpec.upto fnExactIsValidFactSpec)

/-- 'laws.FnExactCompareFacts', WHERE WHAT IT READS IS OF BULK AT MOST 1048576: true; the input reads as it did. -/
def fnExactCompareFactsUptoRow : OpenClaim := { program := "ytcigoeipaichaaa", sum := "5dc4c23f3a4549c87f5072155a402d19e9c99e50d353401e03bdbdb4e8a5abd5", func := "loop.example/g01918/laws.FnExactCompareFacts", spec := "fnExactCompareFacts", apart := false, narrowed := true }
def FnExactCompareFactsUptoSaid : Prop := fnExactCompareFactsUptoRow.holds Try.pinned (OpenSpec.upto fnExactCompareFactsSpec)

/-- 'laws.FnExactHaveSameKey', WHERE WHAT IT READS IS OF BULK AT MOST 1048576: true; the input reads as it did. -/
def fnExactHaveSameKeyUptoRow : OpenClaim := { program := "ytcigoeipaichaaa", sum := "5dc4c23f3a4549c87f5072155a402d19e9c99e50d353401e03bdbdb4e8a5abd5", func := "loop.example/g01918/laws.FnExactHaveSameKey", spec := "fnExactHaveSameKey", inPlace := ["internal/bytealg.abigen_runtime_cmpstring"], unfollowed := true, recurses := true, apart := false, narrowed := true }
def FnExactHaveSameKeyUptoSaid : Prop := fnExactHaveSameKeyUptoRow.holds Try.pinned (OpenSpec.upto fnExactHaveSameKeySpec)

/-- 'laws.FnExactIsValidDatabase', WHERE WHAT IT READS IS OF BULK AT MOST 1048576: true; the input reads as it did. -/
def fnExactIsValidDatabaseUptoRow : OpenClaim := { program := "ytcigoeipaichaaa", sum := "5dc4c23f3a4549c87f5072155a402d19e9c99e50d353401e03bdbdb4e8a5abd5", func := "loop.example/g01918/laws.FnExactIsValidDatabase", spec := "fnExactIsValidDatabase", inPlace := ["internal/bytealg.abigen_runtime_cmpstring"], unfollowed := true, recurses := true, apart := false, narrowed := true }
def FnExactIsValidDatabaseUptoSaid : Prop := fnExactIsValidDatabaseUptoRow.holds Try.pinned (OpenSpec.upto fnExactIsValidDatabaseSpec)

/-- 'laws.FnExactContainsFact', WHERE WHAT IT READS IS OF BULK AT MOST 1048576: true; the input reads as it did. -/
def fnExactContainsFactUptoRow : OpenClaim := { program := "ytcigoeipaichaaa", sum := "5dc4c23f3a4549c87f5072155a402d19e9c99e50d353401e03bdbdb4e8a5abd5", func := "loop.example/g01918/laws.FnExactContainsFact", spec := "fnExactContainsFact", inPlace := ["internal/bytealg.abigen_runtime_cmpstring"], unfollowed := true, recurses := true, apart := false, narrowed := true }
def FnExactContainsFactUptoSaid : Prop := fnExactContainsFactUptoRow.holds Try.pinned (OpenSpec.upto fnExactContainsFactSpec)

/-- 'laws.FnExactFactIndex', WHERE WHAT IT READS IS OF BULK AT MOST 1048576: true; the input reads as it did. -/
def fnExactFactIndexUptoRow : OpenClaim := { program := "ytcigoeipaichaaa", sum := "5dc4c23f3a4549c87f5072155a402d19e9c99e50d353401e03bdbdb4e8a5abd5", func := "loop.example/g01918/laws.FnExactFactIndex", spec := "fnExactFactIndex", apart := false, narrowed := true }
def FnExactFactIndexUptoSaid : Prop := fnExactFactIndexUptoRow.holds Try.pinned (OpenSpec.upto fnExactFactIndexSpec)

/-- 'laws.FnExactIsVariable', WHERE WHAT IT READS IS OF BULK AT MOST 1048576: true; the input reads as it did. -/
def fnExactIsVariableUptoRow : OpenClaim := { program := "ytcigoeipaichaaa", sum := "5dc4c23f3a4549c87f5072155a402d19e9c99e50d353401e03bdbdb4e8a5abd5", func := "loop.example/g01918/laws.FnExactIsVariable", spec := "fnExactIsVariable", apart := false, narrowed := true }
def FnExactIsVariableUptoSaid : Prop := fnExactIsVariableUptoRow.holds Try.pinned (OpenSpec.upto fnExactIsVariableSpec)

/-- 'laws.FnExactConstantTerm', WHERE WHAT IT READS IS OF BULK AT MOST 1048576: true; the input reads as it did. -/
def fnExactConstantTermUptoRow : OpenClaim := { program := "ytcigoeipaichaaa", sum := "5dc4c23f3a4549c87f5072155a402d19e9c99e50d353401e03bdbdb4e8a5abd5", func := "loop.example/g01918/laws.FnExactConstantTerm", spec := "fnExactConstantTerm", apart := false, narrowed := true }
def FnExactConstantTermUptoSaid : Prop := fnExactConstantTermUptoRow.holds Try.pinned (OpenSpec.upto fnExactConstantTermSpec)

/-- 'laws.FnExactTermValue', WHERE WHAT IT READS IS OF BULK AT MOST 1048576: true; the input reads as it did. -/
def fnExactTermValueUptoRow : OpenClaim := { program := "ytcigoeipaichaaa", sum := "5dc4c23f3a4549c87f5072155a402d19e9c99e50d353401e03bdbdb4e8a5abd5", func := "loop.example/g01918/laws.FnExactTermValue", spec := "fnExactTermValue", apart := false, narrowed := true }
def FnExactTermValueUptoSaid : Prop := fnExactTermValueUptoRow.holds Try.pinned (OpenSpec.upto fnExactTermValueSpec)

end Rows
end Go.Proofs.Ytcigoeipaichaaa
