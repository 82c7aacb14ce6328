/-
  No cell of these rows narrows 'for every input' (looked for: loops, veiled, ifaces, maps, wideKeys, modest, calm, conditions, laid).
  DERIVED. THE GIVEN ROWS OF THIS SEAT. 12 by the template 'for every input the law returns true; each argument reads behind the call as it read before'; 0 by the template 'total and deterministic' (their statements: YtjhmenjoanfloaaTotals.lean).
  GIVEN WITH THE SEED: the statements are not yours to turn. If you find one false, say at which input.
  Laid BY PROGRAM, IN A SANDBOX (cutbox-rows.mjs): the forced cells as the released guide's own fill.sh prints them over the translation 7431dff798695619… (all of the seat's roots in one cut). By AI agents, Wed Nov 11 2026. No macro, syntax, notation, axiom, sorry.
-/
import Derived.Test.YtjhmenjoanfloaaChecked
import GoSem.Claim
import GoSem.ClaimJoined
import GoSem.ClaimMapViews
import Derived.JoinedTies
import Derived.KernelRfl
namespace Go.Proofs.Ytjhmenjoanfloaa
/- THE CELL 'sum', in the pinned program and in every row, IS THE sha256 OF THE DUMP (.gsa) THAT YtjhmenjoanfloaaProg.lean LOADS. Nothing in Lean hashes anything: it is a label: what it is worth is what the hold of that sum in a sandbox is worth. -/
noncomputable def Try.pinned : Pinned := { name := "ytjhmenjoanfloaa", sum := "7431dff798695619d2793e8d0387a76dc97f635916c49ea2f517d391d31db0bb", checked := Try.checked }
namespace Rows
def none {H : Type} : Left H := { results := [], args := [] }

/-- 'laws.FnExactEqualEmbeddings': WHATEVER THE INPUT: true; the input reads as it did. -/
def fnExactEqualEmbeddingsSpec : ChangeSpec := { name := "fnExactEqualEmbeddings", fn := fun _ => fun
  | [d1, d2] => { results := [.lit (.bool true)], args := [d1, d2] }
  | _ => none }
def fnExactEqualEmbeddingsRow : OpenClaim := { program := "ytjhmenjoanfloaa", sum := "7431dff798695619d2793e8d0387a76dc97f635916c49ea2f517d391d31db0bb", func := "loop.example/g01918/laws.FnExactEqualEmbeddings", spec := "fnExactEqualEmbeddings", apart := false }
def FnExactEqualEmbeddingsSaid : Prop := fnExactEqualEmbeddingsRow.holds Try.pinned (OpenSpec.ofChange fnExactEqualEmbeddingsSpec)

/-- ITS FALSE NEIGHBOUR: 'it returns false'. Refute it at one input. -/
def fnExactEqualEmbeddingsWrong : ChangeSpec := { name := "fnExactEqualEmbeddings", fn := fun _ => fun
  | [d1, d2] => { results := [.lit (.bool false)], args := [d1, d2] }
  | _ => none }
def FnExactEqualEmbeddingsWrongFalsely : Prop := fnExactEqualEmbeddingsRow.holds Try.pinned (OpenSpec.ofChange fnExactEqualEmbeddingsWrong)

/-- 'laws.FnExactBoundVariables': WHATEVER THE INPUT: true; the input reads as it did. -/
def fnExactBoundVariablesSpec : ChangeSpec := { name := "fnExactBoundVariables", fn := fun _ => fun
  | [d] => { results := [.lit (.bool true)], args := [d] }
  | _ => none }
def fnExactBoundVariablesRow : OpenClaim := { program := "ytjhmenjoanfloaa", sum := "7431dff798695619d2793e8d0387a76dc97f635916c49ea2f517d391d31db0bb", func := "loop.example/g01918/laws.FnExactBoundVariables", spec := "fnExactBoundVariables", apart := false }
def FnExactBoundVariablesSaid : Prop := fnExactBoundVariablesRow.holds Try.pinned (OpenSpec.ofChange fnExactBoundVariablesSpec)

/-- ITS FALSE NEIGHBOUR: 'it returns false'. Refute it at one input. -/
def fnExactBoundVariablesWrong : ChangeSpec := { name := "fnExactBoundVariables", fn := fun _ => fun
  | [d] => { results := [.lit (.bool false)], args := [d] }
  | _ => none }
def FnExactBoundVariablesWrongFalsely : Prop := fnExactBoundVariablesRow.holds Try.pinned (OpenSpec.ofChange fnExactBoundVariablesWrong)

/-- 'laws.FnExactFormatClass': WHATEVER THE INPUT: true; the input reads as it did. -/
def fnExactFormatClassSpec : ChangeSpec := { name := "fnExactFormatClass", fn := fun _ => fun
  | [d] => { results := [.lit (.bool true)], args := [d] }
  | _ => none }
def fnExactFormatClassRow : OpenClaim := { program := "ytjhmenjoanfloaa", sum := "7431dff798695619d2793e8d0387a76dc97f635916c49ea2f517d391d31db0bb", func := "loop.example/g01918/laws.FnExactFormatClass", spec := "fnExactFormatClass", apart := false }
def FnExactFormatClassSaid : Prop := fnExactFormatClassRow.holds Try.pinned (OpenSpec.ofChange fnExactFormatClassSpec)

/-- ITS FALSE NEIGHBOUR: 'it returns false'. Refute it at one input. -/
def fnExactFormatClassWrong : ChangeSpec := { name := "fnExactFormatClass", fn := fun _ => fun
  | [d] => { results := [.lit (.bool false)], args := [d] }
  | _ => none }
def FnExactFormatClassWrongFalsely : Prop := fnExactFormatClassRow.holds Try.pinned (OpenSpec.ofChange fnExactFormatClassWrong)

/-- 'laws.FnExactTrueVariables': WHATEVER THE INPUT: true; the input reads as it did. -/
def fnExactTrueVariablesSpec : ChangeSpec := { name := "fnExactTrueVariables", fn := fun _ => fun
  | [d] => { results := [.lit (.bool true)], args := [d] }
  | _ => none }
def fnExactTrueVariablesRow : OpenClaim := { program := "ytjhmenjoanfloaa", sum := "7431dff798695619d2793e8d0387a76dc97f635916c49ea2f517d391d31db0bb", func := "loop.example/g01918/laws.FnExactTrueVariables", spec := "fnExactTrueVariables", apart := false }
def FnExactTrueVariablesSaid : Prop := fnExactTrueVariablesRow.holds Try.pinned (OpenSpec.ofChange fnExactTrueVariablesSpec)

/-- ITS FALSE NEIGHBOUR: 'it returns false'. Refute it at one input. -/
def fnExactTrueVariablesWrong : ChangeSpec := { name := "fnExactTrueVariables", fn := fun _ => fun
  | [d] => { results := [.lit (.bool false)], args := [d] }
  | _ => none }
def FnExactTrueVariablesWrongFalsely : Prop := fnExactTrueVariablesRow.holds Try.pinned (OpenSpec.ofChange fnExactTrueVariablesWrong)

/-- 'laws.FnExactNegateLiterals': WHATEVER THE INPUT: true; the input reads as it did. -/
def fnExactNegateLiteralsSpec : ChangeSpec := { name := "fnExactNegateLiterals", fn := fun _ => fun
  | [d] => { results := [.lit (.bool true)], args := [d] }
  | _ => none }
def fnExactNegateLiteralsRow : OpenClaim := { program := "ytjhmenjoanfloaa", sum := "7431dff798695619d2793e8d0387a76dc97f635916c49ea2f517d391d31db0bb", func := "loop.example/g01918/laws.FnExactNegateLiterals", spec := "fnExactNegateLiterals", unfollowed := true, recurses := true, apart := false }
def FnExactNegateLiteralsSaid : Prop := fnExactNegateLiteralsRow.holds Try.pinned (OpenSpec.ofChange fnExactNegateLiteralsSpec)

/-- ITS FALSE NEIGHBOUR: 'it returns false'. Refute it at one input. -/
def fnExactNegateLiteralsWrong : ChangeSpec := { name := "fnExactNegateLiterals", fn := fun _ => fun
  | [d] => { results := [.lit (.bool false)], args := [d] }
  | _ => none }
def FnExactNegateLiteralsWrongFalsely : Prop := fnExactNegateLiteralsRow.holds Try.pinned (OpenSpec.ofChange fnExactNegateLiteralsWrong)

/-- 'laws.FnExactSatisfiesClauses': WHATEVER THE INPUT: true; the input reads as it did. -/
def fnExactSatisfiesClausesSpec : ChangeSpec := { name := "fnExactSatisfiesClauses", fn := fun _ => fun
  | [d1, d2] => { results := [.lit (.bool true)], args := [d1, d2] }
  | _ => none }
def fnExactSatisfiesClausesRow : OpenClaim := { program := "ytjhmenjoanfloaa", sum := "7431dff798695619d2793e8d0387a76dc97f635916c49ea2f517d391d31db0bb", func := "loop.example/g01918/laws.FnExactSatisfiesClauses", spec := "fnExactSatisfiesClauses", apart := false }
def FnExactSatisfiesClausesSaid : Prop := fnExactSatisfiesClausesRow.holds Try.pinned (OpenSpec.ofChange fnExactSatisfiesClausesSpec)

/-- ITS FALSE NEIGHBOUR: 'it returns false'. Refute it at one input. -/
def fnExactSatisfiesClausesWrong : ChangeSpec := { name := "fnExactSatisfiesClauses", fn := fun _ => fun
  | [d1, d2] => { results := [.lit (.bool false)], args := [d1, d2] }
  | _ => none }
def FnExactSatisfiesClausesWrongFalsely : Prop := fnExactSatisfiesClausesRow.holds Try.pinned (OpenSpec.ofChange fnExactSatisfiesClausesWrong)

/-- 'laws.FnExactAreValidClauses': WHATEVER THE INPUT: true; the input reads as it did. -/
def fnExactAreValidClausesSpec : ChangeSpec := { name := "fnExactAreValidClauses", fn := fun _ => fun
  | [d1, d2] => { results := [.lit (.bool true)], args := [d1, d2] }
  | _ => none }
def fnExactAreValidClausesRow : OpenClaim := { program := "ytjhmenjoanfloaa", sum := "7431dff798695619d2793e8d0387a76dc97f635916c49ea2f517d391d31db0bb", func := "loop.example/g01918/laws.FnExactAreValidClauses", spec := "fnExactAreValidClauses", apart := false }
def FnExactAreValidClausesSaid : Prop := fnExactAreValidClausesRow.holds Try.pinned (OpenSpec.ofChange fnExactAreValidClausesSpec)

/-- ITS FALSE NEIGHBOUR: 'it returns false'. Refute it at one input. -/
def fnExactAreValidClausesWrong : ChangeSpec := { name := "fnExactAreValidClauses", fn := fun _ => fun
  | [d1, d2] => { results := [.lit (.bool false)], args := [d1, d2] }
  | _ => none }
def FnExactAreValidClausesWrongFalsely : Prop := fnExactAreValidClausesRow.holds Try.pinned (OpenSpec.ofChange fnExactAreValidClausesWrong)

/-- 'laws.FnExactIsValidQuery': WHATEVER THE INPUT: true; the input reads as it did. -/
def fnExactIsValidQuerySpec : ChangeSpec := { name := "fnExactIsValidQuery", fn := fun _ => fun
  | [d1, d2] => { results := [.lit (.bool true)], args := [d1, d2] }
  | _ => none }
def fnExactIsValidQueryRow : OpenClaim := { program := "ytjhmenjoanfloaa", sum := "7431dff798695619d2793e8d0387a76dc97f635916c49ea2f517d391d31db0bb", func := "loop.example/g01918/laws.FnExactIsValidQuery", spec := "fnExactIsValidQuery", inPlace := ["internal/bytealg.abigen_runtime_cmpstring"], unfollowed := true, recurses := true, apart := false }
def FnExactIsValidQuerySaid : Prop := fnExactIsValidQueryRow.holds Try.pinned (OpenSpec.ofChange fnExactIsValidQuerySpec)

/-- ITS FALSE NEIGHBOUR: 'it returns false'. Refute it at one input. -/
def fnExactIsValidQueryWrong : ChangeSpec := { name := "fnExactIsValidQuery", fn := fun _ => fun
  | [d1, d2] => { results := [.lit (.bool false)], args := [d1, d2] }
  | _ => none }
def FnExactIsValidQueryWrongFalsely : Prop := fnExactIsValidQueryRow.holds Try.pinned (OpenSpec.ofChange fnExactIsValidQueryWrong)

/-- 'laws.FnExactIsQueryFor': WHATEVER THE INPUT: true; the input reads as it did. -/
def fnExactIsQueryForSpec : ChangeSpec := { name := "fnExactIsQueryFor", fn := fun _ => fun
  | [d1, d2] => { results := [.lit (.bool true)], args := [d1, d2] }
  | _ => none }
def fnExactIsQueryForRow : OpenClaim := { program := "ytjhmenjoanfloaa", sum := "7431dff798695619d2793e8d0387a76dc97f635916c49ea2f517d391d31db0bb", func := "loop.example/g01918/laws.FnExactIsQueryFor", spec := "fnExactIsQueryFor", inPlace := ["internal/bytealg.abigen_runtime_cmpstring"], unfollowed := true, recurses := true, apart := false }
def FnExactIsQueryForSaid : Prop := fnExactIsQueryForRow.holds Try.pinned (OpenSpec.ofChange fnExactIsQueryForSpec)

/-- ITS FALSE NEIGHBOUR: 'it returns false'. Refute it at one input. -/
def fnExactIsQueryForWrong : ChangeSpec := { name := "fnExactIsQueryFor", fn := fun _ => fun
  | [d1, d2] => { results := [.lit (.bool false)], args := [d1, d2] }
  | _ => none }
def FnExactIsQueryForWrongFalsely : Prop := fnExactIsQueryForRow.holds Try.pinned (OpenSpec.ofChange fnExactIsQueryForWrong)

/-- 'laws.FnExactIsPartialRepair': WHATEVER THE INPUT: true; the input reads as it did. -/
def fnExactIsPartialRepairSpec : ChangeSpec := { name := "fnExactIsPartialRepair", fn := fun _ => fun
  | [d1, d2] => { results := [.lit (.bool true)], args := [d1, d2] }
  | _ => none }
def fnExactIsPartialRepairRow : OpenClaim := { program := "ytjhmenjoanfloaa", sum := "7431dff798695619d2793e8d0387a76dc97f635916c49ea2f517d391d31db0bb", func := "loop.example/g01918/laws.FnExactIsPartialRepair", spec := "fnExactIsPartialRepair", inPlace := ["internal/bytealg.abigen_runtime_cmpstring"], unfollowed := true, recurses := true, apart := false }
def FnExactIsPartialRepairSaid : Prop := fnExactIsPartialRepairRow.holds Try.pinned (OpenSpec.ofChange fnExactIsPartialRepairSpec)

/-- ITS FALSE NEIGHBOUR: 'it returns false'. Refute it at one input. -/
def fnExactIsPartialRepairWrong : ChangeSpec := { name := "fnExactIsPartialRepair", fn := fun _ => fun
  | [d1, d2] => { results := [.lit (.bool false)], args := [d1, d2] }
  | _ => none }
def FnExactIsPartialRepairWrongFalsely : Prop := fnExactIsPartialRepairRow.holds Try.pinned (OpenSpec.ofChange fnExactIsPartialRepairWrong)

/-- 'laws.FnExactIsRepair': WHATEVER THE INPUT: true; the input reads as it did. -/
def fnExactIsRepairSpec : ChangeSpec := { name := "fnExactIsRepair", fn := fun _ => fun
  | [d1, d2] => { results := [.lit (.bool true)], args := [d1, d2] }
  | _ => none }
def fnExactIsRepairRow : OpenClaim := { program := "ytjhmenjoanfloaa", sum := "7431dff798695619d2793e8d0387a76dc97f635916c49ea2f517d391d31db0bb", func := "loop.example/g01918/laws.FnExactIsRepair", spec := "fnExactIsRepair", inPlace := ["internal/bytealg.abigen_runtime_cmpstring"], unfollowed := true, recurses := true, apart := false }
def FnExactIsRepairSaid : Prop := fnExactIsRepairRow.holds Try.pinned (OpenSpec.ofChange fnExactIsRepairSpec)

/-- ITS FALSE NEIGHBOUR: 'it returns false'. Refute it at one input. -/
def fnExactIsRepairWrong : ChangeSpec := { name := "fnExactIsRepair", fn := fun _ => fun
  | [d1, d2] => { results := [.lit (.bool false)], args := [d1, d2] }
  | _ => none }
def FnExactIsRepairWrongFalsely : Prop := fnExactIsRepairRow.holds Try.pinned (OpenSpec.ofChange fnExactIsRepairWrong)

/-- 'laws.FnExactRepairRank': WHATEVER THE INPUT: true; the input reads as it did. -/
def fnExactRepairRankSpec : ChangeSpec := { name := "fnExactRepairRank", fn := fun _ => fun
  | [d1, d2] => { results := [.lit (.bool true)], args := [d1, d2] }
  | _ => none }
def fnExactRepairRankRow : OpenClaim := { program := "ytjhmenjoanfloaa", sum := "7431dff798695619d2793e8d0387a76dc97f635916c49ea2f517d391d31db0bb", func := "loop.example/g01918/laws.FnExactRepairRank", spec := "fnExactRepairRank", inPlace := ["internal/bytealg.abigen_runtime_cmpstring"], unfollowed := true, recurses := true, apart := false }
def FnExactRepairRankSaid : Prop := fnExactRepairRankRow.holds Try.pinned (OpenSpec.ofChange fnExactRepairRankSpec)

/-- ITS FALSE NEIGHBOUR: 'it returns false'. Refute it at one input. -/
def fnExactRepairRankWrong : ChangeSpec := { name := "fnExactRepairRank", fn := fun _ => fun
  | [d1, d2] => { results := [.lit (.bool false)], args := [d1, d2] }
  | _ => none }
def FnExactRepairRankWrongFalsely : Prop := fnExactRepairRankRow.holds Try.pinned (OpenSpec.ofChange fnExactRepairRankWrong)

/- THE SECOND FORM. 'bulk': how many values and letters a reading holds, each counted each time it is reached (what is shared counts as often as it is met; a slice's spare places count too). A statement '..UptoSaid' is the law's where the arguments, and the package variables that the reading takes, are together of bulk at most 1048576: NARROWER than '..Said'. Prove '..Said' where nothing that the law and all that it calls make is longer than what came in: it says more and counts as full. Else prove '..UptoSaid'. A law counts once. -/
mutual
def uptoBulk {H : Type} : DataW H → Nat
  | .lit (.string bytes) => bytes.length + 1
  | .lit _ => 1
  | .nil => 1
  | .ptr d => uptoBulk d + 1
  | .slice elems spare => uptoBulkAll elems + uptoBulkAll spare + 1
  | .agg parts => uptoBulkAll parts + 1
  | .iface _ d => uptoBulk d + 1
  | .map entries => uptoBulkEntries entries + 1
  | .held _ => 1
def uptoBulkAll {H : Type} : List (DataW H) → Nat
  | [] => 0
  | d :: r => uptoBulk d + uptoBulkAll r
def uptoBulkEntries {H : Type} : List (Lit × DataW H) → Nat
  | [] => 0
  | x :: r => uptoBulkEntry x + uptoBulkEntries r
def uptoBulkEntry {H : Type} : Lit × DataW H → Nat
  | (.string bytes, d) => bytes.length + uptoBulk d + 1
  | (_, d) => uptoBulk d + 1
 end
def uptoSmall : (H : Type) → List (DataW H) → Bool := fun _ ds => decide (uptoBulkAll ds ≤ 1048576)
def OpenSpec.upto (s : _root_.Go.ChangeSpec) : _root_.Go.OpenSpec := { _root_.Go.OpenSpec.ofChange s with cond := some uptoSmall }

/-- 'laws.FnExactEqualEmbeddings', WHERE WHAT IT READS IS OF BULK AT MOST 1048576: true; the input reads as it did. -/
def fnExactEqualEmbeddingsUptoRow : OpenClaim := { program := "ytjhmenjoanfloaa", sum := "7431dff798695619d2793e8d0387a76dc97f635916c49ea2f517d391d31db0bb", func := "loop.example/g01918/laws.FnExactEqualEmbeddings", spec := "fnExactEqualEmbeddings", apart := false, narrowed := true }
def FnExactEqualEmbeddingsUptoSaid : Prop := fnExactEqualEmbeddingsUptoRow.holds Try.pinned (OpenSpec.upto fnExactEqualEmbeddingsSpec)

/-- 'laws.FnExactBoundVariables', WHERE WHAT IT READS IS OF BULK AT MOST 1048576: true; the input reads as it did. -/
def fnExactBoundVariablesUptoRow : OpenClaim := { program := "ytjhmenjoanfloaa", sum := "7431dff798695619d2793e8d0387a76dc97f635916c49ea2f517d391d31db0bb", func := "loop.example/g01918/laws.FnExactBoundVariables", spec := "fnExactBoundVariables", apart := false, narrowed := true }
def FnExactBoundVariablesUptoSaid : Prop := fnExactBoundVariablesUptoRow.holds Try.pinned (OpenSpec.upto fnExactBoundVariablesSpec)

/-- 'laws.FnExactFormatClass', WHERE WHAT IT READS IS OF BULK AT MOST 1048576: true; the input reads as it did. -/
def fnExactFormatClassUptoRow : OpenClaim := { program := "ytjhmenjoanfloaa", sum := "7431dff798695619d2793e8d0387a76dc97f635916c49ea2f517d391d31db0bb", func := "loop.example/g01918/laws.FnExactFormatClass", spec := "fnExactFormatClass", apart := false, narrowed := true }
def FnExactFormatClassUptoSaid : Prop := fnExactFormatClassUptoRow.holds Try.pinned (OpenSpec.upto fnExactFormatClassSpec)

/-- 'laws.FnExactTrueVariables', WHERE WHAT IT READS IS OF BULK AT MOST 1048576: true; the input reads as it did. -/
def fnExactTrueVariablesUptoRow : OpenClaim := { program := "ytjhmenjoanfloaa", sum := "7431dff798695619d2793e8d0387a76dc97f635916c49ea2f517d391d31db0bb", func := "loop.example/g01918/laws.FnExactTrueVariables", spec := "fnExactTrueVariables", apart := false, narrowed := true }
def FnExactTrueVariablesUptoSaid : Prop := fnExactTrueVariablesUptoRow.holds Try.pinned (OpenSpec.upto fnExactTrueVariablesSpec)

/-- 'laws.FnExactNegateLiterals', WHERE WHAT IT READS IS OF BULK AT MOST 1048576: true; the input reads as it did. -/
def fnExactNegateLiteralsUptoRow : OpenClaim := { program := "ytjhmenjoanfloaa", sum := "7431dff798695619d2793e8d0387a76dc97f635916c49ea2f517d391d31db0bb", func := "loop.example/g01918/laws.FnExactNegateLiterals", spec := "fnExactNegateLiterals", unfollowed := true, recurses := true, apart := false, narrowed := true }
def FnExactNegateLiteralsUptoSaid : Prop := fnExactNegateLiteralsUptoRow.holds Try.pinned (OpenSpec.upto fnExactNegateLiteralsSpec)

/-- 'laws.FnExactSatisfiesClauses', WHERE WHAT IT READS IS OF BULK AT MOST 1048576: true; the input reads as it did. -/
def fnExactSatisfiesClausesUptoRow : OpenClaim := { program := "ytjhmenjoanfloaa", sum := "7431dff798695619d2793e8d0387a76dc97f635916c49ea2f517d391d31db0bb", func := "loop.example/g01918/laws.FnExactSatisfiesClauses", spec := "fnExactSatisfiesClauses", apart := false, narrowed := true }
def FnExactSatisfiesClausesUptoSaid : Prop := fnExactSatisfiesClausesUptoRow.holds Try.pinned (OpenSpec.upto fnExactSatisfiesClausesSpec)

/-- 'laws.FnExactAreValidClauses', WHERE WHAT IT READS IS OF BULK AT MOST 1048576: true; the input reads as it did. -/
def fnExactAreValidClausesUptoRow : OpenClaim := { program := "ytjhmenjoanfloaa", sum := "7431dff798695619d2793e8d0387a76dc97f635916c49ea2f517d391d31db0bb", func := "loop.example/g01918/laws.FnExactAreValidClauses", spec := "fnExactAreValidClauses", apart := false, narrowed := true }
def FnExactAreValidClausesUptoSaid : Prop := fnExactAreValidClausesUptoRow.holds Try.pinned (OpenSpec.upto fnExactAreValidClausesSpec)

/-- 'laws.FnExactIsValidQuery', WHERE WHAT IT READS IS OF BULK AT MOST 1048576: true; the input reads as it did. -/
def fnExactIsValidQueryUptoRow : OpenClaim := { program := "ytjhmenjoanfloaa", sum := "7431dff798695619d2793e8d0387a76dc97f635916c49ea2f517d391d31db0bb", func := "loop.example/g01918/laws.FnExactIsValidQuery", spec := "fnExactIsValidQuery", inPlace := ["internal/bytealg.abigen_runtime_cmpstring"], unfollowed := true, recurses := true, apart := false, narrowed := true }
def FnExactIsValidQueryUptoSaid : Prop := fnExactIsValidQueryUptoRow.holds Try.pinned (OpenSpec.upto fnExactIsValidQuerySpec)

/-- 'laws.FnExactIsQueryFor', WHERE WHAT IT READS IS OF BULK AT MOST 1048576: true; the input reads as it did. -/
def fnExactIsQueryForUptoRow : OpenClaim := { program := "ytjhmenjoanfloaa", sum := "7431dff798695619d2793e8d0387a76dc97f635916c49ea2f517d391d31db0bb", func := "loop.example/g01918/laws.FnExactIsQueryFor", spec := "fnExactIsQueryFor", inPlace := ["internal/bytealg.abigen_runtime_cmpstring"], unfollowed := true, recurses := true, apart := false, narrowed := true }
def FnExactIsQueryForUptoSaid : Prop := fnExactIsQueryForUptoRow.holds Try.pinned (OpenSpec.upto fnExactIsQueryForSpec)

/-- 'laws.FnExactIsPartialRepair', WHERE WHAT IT READS IS OF BULK AT MOST 1048576: true; the input reads as it did. -/
def fnExactIsPartialRepairUptoRow : OpenClaim := { program := "ytjhmenjoanfloaa", sum := "7431dff798695619d2793e8d0387a76dc97f635916c49ea2f517d391d31db0bb", func := "loop.example/g01918/laws.FnExactIsPartialRepair", spec := "fnExactIsPartialRepair", inPlace := ["internal/bytealg.abigen_runtime_cmpstring"], unfollowed := true, recurses := true, apart := false, narrowed := true }
def FnExactIsPartialRepairUptoSaid : Prop := fnExactIsPartialRepairUptoRow.holds Try.pinned (OpenSpec.upto fnExactIsPartialRepairSpec)

/-- 'laws.FnExactIsRepair', WHERE WHAT IT READS IS OF BULK AT MOST 1048576: true; the input reads as it did. -/
def fnExactIsRepairUptoRow : OpenClaim := { program := "ytjhmenjoanfloaa", sum := "7431dff798695619d2793e8d0387a76dc97f635916c49ea2f517d391d31db0bb", func := "loop.example/g01918/laws.FnExactIsRepair", spec := "fnExactIsRepair", inPlace := ["internal/bytealg.abigen_runtime_cmpstring"], unfollowed := true, recurses := true, apart := false, narrowed := true }
def FnExactIsRepairUptoSaid : Prop := fnExactIsRepairUptoRow.holds Try.pinned (OpenSpec.upto fnExactIsRepairSpec)

/-- 'laws.FnExactRepairRank', WHERE WHAT IT READS IS OF BULK AT MOST 1048576: true; the input reads as it did. -/
def fnExactRepairRankUptoRow : OpenClaim := { program := "ytjhmenjoanfloaa", sum := "7431dff798695619d2793e8d0387a76dc97f635916c49ea2f517d391d31db0bb", func := "loop.example/g01918/laws.FnExactRepairRank", spec := "fnExactRepairRank", inPlace := ["internal/bytealg.abigen_runtime_cmpstring"], unfollowed := true, recurses := true, apart := false, narrowed := true }
def FnExactRepairRankUptoSaid : Prop := fnExactRepairRankUptoRow.holds Try.pinned (OpenSpec.upto fnExactRepairRankSpec)

end Rows
end Go.Proofs.Ytjhmenjoanfloaa
