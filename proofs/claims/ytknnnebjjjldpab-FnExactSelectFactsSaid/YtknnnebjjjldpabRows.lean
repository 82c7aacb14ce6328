/-
  No cell of these rows narrows 'for every input' (looked for: loops, veiled, ifaces, maps, wideKeys, modest, calm, conditions, laid).
  DERIVED. THE GIVEN ROWS OF THIS SEAT. 12 by the template 'for every input the law returns true; each argument reads behind the call as it read before'; 0 by the template 'total and deterministic' (their statements: YtknnnebjjjldpabTotals.lean).
  GIVEN WITH THE SEED: the statements are not yours to turn. If you find one false, say at which input.
  Laid BY PROGRAM, IN A SANDBOX (cutbox-rows.mjs): the forced cells as the released guide's own fill.sh prints them over the translation aeb33a198ecbf6c7… (all of the seat's roots in one cut). By AI agents, Wed Nov 11 2026. No macro, syntax, notation, axiom, sorry.
-/
import Derived.Test.YtknnnebjjjldpabChecked
import GoSem.Claim
import GoSem.ClaimJoined
import GoSem.ClaimMapViews
import Derived.JoinedTies
import Derived.KernelRfl
namespace Go.Proofs.Ytknnnebjjjldpab
/- THE CELL 'sum', in the pinned program and in every row, IS THE sha256 OF THE DUMP (.gsa) THAT YtknnnebjjjldpabProg.lean LOADS. Nothing in Lean hashes anything: it is a label: what it is worth is what the hold of that sum in a sandbox is worth. -/
noncomputable def Try.pinned : Pinned := { name := "ytknnnebjjjldpab", sum := "aeb33a198ecbf6c7ef05670da5b6340690fd2a3f9424fa51647e99f01018bccc", checked := Try.checked }
namespace Rows
def none {H : Type} : Left H := { results := [], args := [] }

/-- 'laws.FnExactSelectFacts': WHATEVER THE INPUT: true; the input reads as it did. -/
def fnExactSelectFactsSpec : ChangeSpec := { name := "fnExactSelectFacts", fn := fun _ => fun
  | [d1, d2] => { results := [.lit (.bool true)], args := [d1, d2] }
  | _ => none }
def fnExactSelectFactsRow : OpenClaim := { program := "ytknnnebjjjldpab", sum := "aeb33a198ecbf6c7ef05670da5b6340690fd2a3f9424fa51647e99f01018bccc", func := "loop.example/g01918/laws.FnExactSelectFacts", spec := "fnExactSelectFacts", inPlace := ["internal/bytealg.abigen_runtime_cmpstring"], unfollowed := true, recurses := true, apart := false }
def FnExactSelectFactsSaid : Prop := fnExactSelectFactsRow.holds Try.pinned (OpenSpec.ofChange fnExactSelectFactsSpec)

/-- ITS FALSE NEIGHBOUR: 'it returns false'. Refute it at one input. -/
def fnExactSelectFactsWrong : ChangeSpec := { name := "fnExactSelectFacts", fn := fun _ => fun
  | [d1, d2] => { results := [.lit (.bool false)], args := [d1, d2] }
  | _ => none }
def FnExactSelectFactsWrongFalsely : Prop := fnExactSelectFactsRow.holds Try.pinned (OpenSpec.ofChange fnExactSelectFactsWrong)

/-- 'laws.FnExactIsPartialRepair': WHATEVER THE INPUT: true; the input reads as it did. -/
def fnExactIsPartialRepairSpec : ChangeSpec := { name := "fnExactIsPartialRepair", fn := fun _ => fun
  | [d1, d2] => { results := [.lit (.bool true)], args := [d1, d2] }
  | _ => none }
def fnExactIsPartialRepairRow : OpenClaim := { program := "ytknnnebjjjldpab", sum := "aeb33a198ecbf6c7ef05670da5b6340690fd2a3f9424fa51647e99f01018bccc", func := "loop.example/g01918/laws.FnExactIsPartialRepair", spec := "fnExactIsPartialRepair", inPlace := ["internal/bytealg.abigen_runtime_cmpstring"], unfollowed := true, recurses := true, apart := false }
def FnExactIsPartialRepairSaid : Prop := fnExactIsPartialRepairRow.holds Try.pinned (OpenSpec.ofChange fnExactIsPartialRepairSpec)

/-- ITS FALSE NEIGHBOUR: 'it returns false'. Refute it at one input. -/
def fnExactIsPartialRepairWrong : ChangeSpec := { name := "fnExactIsPartialRepair", fn := fun _ => fun
  | [d1, d2] => { results := [.lit (.bool false)], args := [d1, d2] }
  | _ => none }
def FnExactIsPartialRepairWrongFalsely : Prop := fnExactIsPartialRepairRow.holds Try.pinned (OpenSpec.ofChange fnExactIsPartialRepairWrong)

/-- 'laws.FnExactIsRepair': WHATEVER THE INPUT: true; the input reads as it did. -/
def fnExactIsRepairSpec : ChangeSpec := { name := "fnExactIsRepair", fn := fun _ => fun
  | [d1, d2] => { results := [.lit (.bool true)], args := [d1, d2] }
  | _ => none }
def fnExactIsRepairRow : OpenClaim := { program := "ytknnnebjjjldpab", sum := "aeb33a198ecbf6c7ef05670da5b6340690fd2a3f9424fa51647e99f01018bccc", func := "loop.example/g01918/laws.FnExactIsRepair", spec := "fnExactIsRepair", inPlace := ["internal/bytealg.abigen_runtime_cmpstring"], unfollowed := true, recurses := true, apart := false }
def FnExactIsRepairSaid : Prop := fnExactIsRepairRow.holds Try.pinned (OpenSpec.ofChange fnExactIsRepairSpec)

/-- ITS FALSE NEIGHBOUR: 'it returns false'. Refute it at one input. -/
def fnExactIsRepairWrong : ChangeSpec := { name := "fnExactIsRepair", fn := fun _ => fun
  | [d1, d2] => { results := [.lit (.bool false)], args := [d1, d2] }
  | _ => none }
def FnExactIsRepairWrongFalsely : Prop := fnExactIsRepairRow.holds Try.pinned (OpenSpec.ofChange fnExactIsRepairWrong)

/-- 'laws.FnExactRepairRank': WHATEVER THE INPUT: true; the input reads as it did. -/
def fnExactRepairRankSpec : ChangeSpec := { name := "fnExactRepairRank", fn := fun _ => fun
  | [d1, d2] => { results := [.lit (.bool true)], args := [d1, d2] }
  | _ => none }
def fnExactRepairRankRow : OpenClaim := { program := "ytknnnebjjjldpab", sum := "aeb33a198ecbf6c7ef05670da5b6340690fd2a3f9424fa51647e99f01018bccc", func := "loop.example/g01918/laws.FnExactRepairRank", spec := "fnExactRepairRank", inPlace := ["internal/bytealg.abigen_runtime_cmpstring"], unfollowed := true, recurses := true, apart := false }
def FnExactRepairRankSaid : Prop := fnExactRepairRankRow.holds Try.pinned (OpenSpec.ofChange fnExactRepairRankSpec)

/-- ITS FALSE NEIGHBOUR: 'it returns false'. Refute it at one input. -/
def fnExactRepairRankWrong : ChangeSpec := { name := "fnExactRepairRank", fn := fun _ => fun
  | [d1, d2] => { results := [.lit (.bool false)], args := [d1, d2] }
  | _ => none }
def FnExactRepairRankWrongFalsely : Prop := fnExactRepairRankRow.holds Try.pinned (OpenSpec.ofChange fnExactRepairRankWrong)

/-- 'laws.FnExactNthRepair': WHATEVER THE INPUT: true; the input reads as it did. -/
def fnExactNthRepairSpec : ChangeSpec := { name := "fnExactNthRepair", fn := fun _ => fun
  | [d1, d2] => { results := [.lit (.bool true)], args := [d1, d2] }
  | _ => none }
def fnExactNthRepairRow : OpenClaim := { program := "ytknnnebjjjldpab", sum := "aeb33a198ecbf6c7ef05670da5b6340690fd2a3f9424fa51647e99f01018bccc", func := "loop.example/g01918/laws.FnExactNthRepair", spec := "fnExactNthRepair", inPlace := ["internal/bytealg.abigen_runtime_cmpstring"], unfollowed := true, recurses := true, apart := false }
def FnExactNthRepairSaid : Prop := fnExactNthRepairRow.holds Try.pinned (OpenSpec.ofChange fnExactNthRepairSpec)

/-- ITS FALSE NEIGHBOUR: 'it returns false'. Refute it at one input. -/
def fnExactNthRepairWrong : ChangeSpec := { name := "fnExactNthRepair", fn := fun _ => fun
  | [d1, d2] => { results := [.lit (.bool false)], args := [d1, d2] }
  | _ => none }
def FnExactNthRepairWrongFalsely : Prop := fnExactNthRepairRow.holds Try.pinned (OpenSpec.ofChange fnExactNthRepairWrong)

/-- 'laws.FnExactNextRepair': WHATEVER THE INPUT: true; the input reads as it did. -/
def fnExactNextRepairSpec : ChangeSpec := { name := "fnExactNextRepair", fn := fun _ => fun
  | [d1, d2] => { results := [.lit (.bool true)], args := [d1, d2] }
  | _ => none }
def fnExactNextRepairRow : OpenClaim := { program := "ytknnnebjjjldpab", sum := "aeb33a198ecbf6c7ef05670da5b6340690fd2a3f9424fa51647e99f01018bccc", func := "loop.example/g01918/laws.FnExactNextRepair", spec := "fnExactNextRepair", inPlace := ["internal/bytealg.abigen_runtime_cmpstring"], unfollowed := true, recurses := true, apart := false }
def FnExactNextRepairSaid : Prop := fnExactNextRepairRow.holds Try.pinned (OpenSpec.ofChange fnExactNextRepairSpec)

/-- ITS FALSE NEIGHBOUR: 'it returns false'. Refute it at one input. -/
def fnExactNextRepairWrong : ChangeSpec := { name := "fnExactNextRepair", fn := fun _ => fun
  | [d1, d2] => { results := [.lit (.bool false)], args := [d1, d2] }
  | _ => none }
def FnExactNextRepairWrongFalsely : Prop := fnExactNextRepairRow.holds Try.pinned (OpenSpec.ofChange fnExactNextRepairWrong)

/-- 'laws.FnExactExtendToRepair': WHATEVER THE INPUT: true; the input reads as it did. -/
def fnExactExtendToRepairSpec : ChangeSpec := { name := "fnExactExtendToRepair", fn := fun _ => fun
  | [d1, d2] => { results := [.lit (.bool true)], args := [d1, d2] }
  | _ => none }
def fnExactExtendToRepairRow : OpenClaim := { program := "ytknnnebjjjldpab", sum := "aeb33a198ecbf6c7ef05670da5b6340690fd2a3f9424fa51647e99f01018bccc", func := "loop.example/g01918/laws.FnExactExtendToRepair", spec := "fnExactExtendToRepair", inPlace := ["internal/bytealg.abigen_runtime_cmpstring"], unfollowed := true, recurses := true, apart := false }
def FnExactExtendToRepairSaid : Prop := fnExactExtendToRepairRow.holds Try.pinned (OpenSpec.ofChange fnExactExtendToRepairSpec)

/-- ITS FALSE NEIGHBOUR: 'it returns false'. Refute it at one input. -/
def fnExactExtendToRepairWrong : ChangeSpec := { name := "fnExactExtendToRepair", fn := fun _ => fun
  | [d1, d2] => { results := [.lit (.bool false)], args := [d1, d2] }
  | _ => none }
def FnExactExtendToRepairWrongFalsely : Prop := fnExactExtendToRepairRow.holds Try.pinned (OpenSpec.ofChange fnExactExtendToRepairWrong)

/-- 'laws.FnExactKeyConflicts': WHATEVER THE INPUT: true; the input reads as it did. -/
def fnExactKeyConflictsSpec : ChangeSpec := { name := "fnExactKeyConflicts", fn := fun _ => fun
  | [d] => { results := [.lit (.bool true)], args := [d] }
  | _ => none }
def fnExactKeyConflictsRow : OpenClaim := { program := "ytknnnebjjjldpab", sum := "aeb33a198ecbf6c7ef05670da5b6340690fd2a3f9424fa51647e99f01018bccc", func := "loop.example/g01918/laws.FnExactKeyConflicts", spec := "fnExactKeyConflicts", inPlace := ["internal/bytealg.abigen_runtime_cmpstring"], unfollowed := true, recurses := true, apart := false }
def FnExactKeyConflictsSaid : Prop := fnExactKeyConflictsRow.holds Try.pinned (OpenSpec.ofChange fnExactKeyConflictsSpec)

/-- ITS FALSE NEIGHBOUR: 'it returns false'. Refute it at one input. -/
def fnExactKeyConflictsWrong : ChangeSpec := { name := "fnExactKeyConflicts", fn := fun _ => fun
  | [d] => { results := [.lit (.bool false)], args := [d] }
  | _ => none }
def FnExactKeyConflictsWrongFalsely : Prop := fnExactKeyConflictsRow.holds Try.pinned (OpenSpec.ofChange fnExactKeyConflictsWrong)

/-- 'laws.FnExactConflictEdges': WHATEVER THE INPUT: true; the input reads as it did. -/
def fnExactConflictEdgesSpec : ChangeSpec := { name := "fnExactConflictEdges", fn := fun _ => fun
  | [d1, d2] => { results := [.lit (.bool true)], args := [d1, d2] }
  | _ => none }
def fnExactConflictEdgesRow : OpenClaim := { program := "ytknnnebjjjldpab", sum := "aeb33a198ecbf6c7ef05670da5b6340690fd2a3f9424fa51647e99f01018bccc", func := "loop.example/g01918/laws.FnExactConflictEdges", spec := "fnExactConflictEdges", inPlace := ["internal/bytealg.abigen_runtime_cmpstring"], unfollowed := true, recurses := true, apart := false }
def FnExactConflictEdgesSaid : Prop := fnExactConflictEdgesRow.holds Try.pinned (OpenSpec.ofChange fnExactConflictEdgesSpec)

/-- ITS FALSE NEIGHBOUR: 'it returns false'. Refute it at one input. -/
def fnExactConflictEdgesWrong : ChangeSpec := { name := "fnExactConflictEdges", fn := fun _ => fun
  | [d1, d2] => { results := [.lit (.bool false)], args := [d1, d2] }
  | _ => none }
def FnExactConflictEdgesWrongFalsely : Prop := fnExactConflictEdgesRow.holds Try.pinned (OpenSpec.ofChange fnExactConflictEdgesWrong)

/-- 'laws.FnExactSatisfiesConstraints': WHATEVER THE INPUT: true; the input reads as it did. -/
def fnExactSatisfiesConstraintsSpec : ChangeSpec := { name := "fnExactSatisfiesConstraints", fn := fun _ => fun
  | [d1, d2] => { results := [.lit (.bool true)], args := [d1, d2] }
  | _ => none }
def fnExactSatisfiesConstraintsRow : OpenClaim := { program := "ytknnnebjjjldpab", sum := "aeb33a198ecbf6c7ef05670da5b6340690fd2a3f9424fa51647e99f01018bccc", func := "loop.example/g01918/laws.FnExactSatisfiesConstraints", spec := "fnExactSatisfiesConstraints", inPlace := ["internal/bytealg.abigen_runtime_cmpstring"], unfollowed := true, recurses := true, apart := false }
def FnExactSatisfiesConstraintsSaid : Prop := fnExactSatisfiesConstraintsRow.holds Try.pinned (OpenSpec.ofChange fnExactSatisfiesConstraintsSpec)

/-- ITS FALSE NEIGHBOUR: 'it returns false'. Refute it at one input. -/
def fnExactSatisfiesConstraintsWrong : ChangeSpec := { name := "fnExactSatisfiesConstraints", fn := fun _ => fun
  | [d1, d2] => { results := [.lit (.bool false)], args := [d1, d2] }
  | _ => none }
def FnExactSatisfiesConstraintsWrongFalsely : Prop := fnExactSatisfiesConstraintsRow.holds Try.pinned (OpenSpec.ofChange fnExactSatisfiesConstraintsWrong)

/-- 'laws.FnExactInsertFact': WHATEVER THE INPUT: true; the input reads as it did. -/
def fnExactInsertFactSpec : ChangeSpec := { name := "fnExactInsertFact", fn := fun _ => fun
  | [d1, d2] => { results := [.lit (.bool true)], args := [d1, d2] }
  | _ => none }
def fnExactInsertFactRow : OpenClaim := { program := "ytknnnebjjjldpab", sum := "aeb33a198ecbf6c7ef05670da5b6340690fd2a3f9424fa51647e99f01018bccc", func := "loop.example/g01918/laws.FnExactInsertFact", spec := "fnExactInsertFact", inPlace := ["internal/bytealg.abigen_runtime_cmpstring", "slices.overlaps[loop.example/g01918/impl.Fact]"], unfollowed := true, recurses := true, apart := false }
def FnExactInsertFactSaid : Prop := fnExactInsertFactRow.holds Try.pinned (OpenSpec.ofChange fnExactInsertFactSpec)

/-- ITS FALSE NEIGHBOUR: 'it returns false'. Refute it at one input. -/
def fnExactInsertFactWrong : ChangeSpec := { name := "fnExactInsertFact", fn := fun _ => fun
  | [d1, d2] => { results := [.lit (.bool false)], args := [d1, d2] }
  | _ => none }
def FnExactInsertFactWrongFalsely : Prop := fnExactInsertFactRow.holds Try.pinned (OpenSpec.ofChange fnExactInsertFactWrong)

/-- 'laws.FnExactDeleteFact': WHATEVER THE INPUT: true; the input reads as it did. -/
def fnExactDeleteFactSpec : ChangeSpec := { name := "fnExactDeleteFact", fn := fun _ => fun
  | [d1, d2] => { results := [.lit (.bool true)], args := [d1, d2] }
  | _ => none }
def fnExactDeleteFactRow : OpenClaim := { program := "ytknnnebjjjldpab", sum := "aeb33a198ecbf6c7ef05670da5b6340690fd2a3f9424fa51647e99f01018bccc", func := "loop.example/g01918/laws.FnExactDeleteFact", spec := "fnExactDeleteFact", inPlace := ["internal/bytealg.abigen_runtime_cmpstring"], unfollowed := true, recurses := true, apart := false }
def FnExactDeleteFactSaid : Prop := fnExactDeleteFactRow.holds Try.pinned (OpenSpec.ofChange fnExactDeleteFactSpec)

/-- ITS FALSE NEIGHBOUR: 'it returns false'. Refute it at one input. -/
def fnExactDeleteFactWrong : ChangeSpec := { name := "fnExactDeleteFact", fn := fun _ => fun
  | [d1, d2] => { results := [.lit (.bool false)], args := [d1, d2] }
  | _ => none }
def FnExactDeleteFactWrongFalsely : Prop := fnExactDeleteFactRow.holds Try.pinned (OpenSpec.ofChange fnExactDeleteFactWrong)

/- THE SECOND FORM. 'bulk': how many values and letters a reading holds, each counted each time it is reached (what is shared counts as often as it is met; a slice's spare places count too). A statement '..UptoSaid' is the law's where the arguments, and the package variables that the reading takes, are together of bulk at most 1048576: NARROWER than '..Said'. Prove '..Said' where nothing that the law and all that it calls make is longer than what came in: it says more and counts as full. Else prove '..UptoSaid'. A law counts once. -/
mutual
def uptoBulk {H : Type} : DataW H → Nat
  | .lit (.string bytes) => bytes.length + 1
  | .lit _ => 1
  | .nil => 1
  | .ptr d => uptoBulk d + 1
  | .slice elems spare => uptoBulkAll elems + uptoBulkAll spare + 1
  | .agg parts => uptoBulkAll parts + 1
  | .iface _ d => uptoBulk d + 1
  | .map entries => uptoBulkEntries entries + 1
  | .held _ => 1
def uptoBulkAll {H : Type} : List (DataW H) → Nat
  | [] => 0
  | d :: r => uptoBulk d + uptoBulkAll r
def uptoBulkEntries {H : Type} : List (Lit × DataW H) → Nat
  | [] => 0
  | x :: r => uptoBulkEntry x + uptoBulkEntries r
def uptoBulkEntry {H : Type} : Lit × DataW H → Nat
  | (.string bytes, d) => bytes.length + uptoBulk d + 1
  | (_, d) => uptoBulk d + 1
 end
def uptoSmall : (H : Type) → List (DataW H) → Bool := fun _ ds => decide (uptoBulkAll ds ≤ 1048576)
def OpenSpec.upto (s : _root_.Go.ChangeSpec) : _root_.Go.OpenSpec := { _root_.Go.OpenSpec.ofChange s with cond := some uptoSmall }

/-- 'laws.FnExactSelectFacts', WHERE WHAT IT READS IS OF BULK AT MOST 1048576: true; the input reads as it did. -/
def fnExactSelectFactsUptoRow : OpenClaim := { program := "ytknnnebjjjldpab", sum := "aeb33a198ecbf6c7ef05670da5b6340690fd2a3f9424fa51647e99f01018bccc", func := "loop.example/g01918/laws.FnExactSelectFacts", spec := "fnExactSelectFacts", inPlace := ["internal/bytealg.abigen_runtime_cmpstring"], unfollowed := true, recurses := true, apart := false, narrowed := true }
def FnExactSelectFactsUptoSaid : Prop := fnExactSelectFactsUptoRow.holds Try.pinned (OpenSpec.upto fnExactSelectFactsSpec)

/-- 'laws.FnExactIsPartialRepair', WHERE WHAT IT READS IS OF BULK AT MOST 1048576: true; the input reads as it did. -/
def fnExactIsPartialRepairUptoRow : OpenClaim := { program := "ytknnnebjjjldpab", sum := "aeb33a198ecbf6c7ef05670da5b6340690fd2a3f9424fa51647e99f01018bccc", func := "loop.example/g01918/laws.FnExactIsPartialRepair", spec := "fnExactIsPartialRepair", inPlace := ["internal/bytealg.abigen_runtime_cmpstring"], unfollowed := true, recurses := true, apart := false, narrowed := true }
def FnExactIsPartialRepairUptoSaid : Prop := fnExactIsPartialRepairUptoRow.holds Try.pinned (OpenSpec.upto fnExactIsPartialRepairSpec)

/-- 'laws.FnExactIsRepair', WHERE WHAT IT READS IS OF BULK AT MOST 1048576: true; the input reads as it did. -/
def fnExactIsRepairUptoRow : OpenClaim := { program := "ytknnnebjjjldpab", sum := "aeb33a198ecbf6c7ef05670da5b6340690fd2a3f9424fa51647e99f01018bccc", func := "loop.example/g01918/laws.FnExactIsRepair", spec := "fnExactIsRepair", inPlace := ["internal/bytealg.abigen_runtime_cmpstring"], unfollowed := true, recurses := true, apart := false, narrowed := true }
def FnExactIsRepairUptoSaid : Prop := fnExactIsRepairUptoRow.holds Try.pinned (OpenSpec.upto fnExactIsRepairSpec)

/-- 'laws.FnExactRepairRank', WHERE WHAT IT READS IS OF BULK AT MOST 1048576: true; the input reads as it did. -/
def fnExactRepairRankUptoRow : OpenClaim := { program := "ytknnnebjjjldpab", sum := "aeb33a198ecbf6c7ef05670da5b6340690fd2a3f9424fa51647e99f01018bccc", func := "loop.example/g01918/laws.FnExactRepairRank", spec := "fnExactRepairRank", inPlace := ["internal/bytealg.abigen_runtime_cmpstring"], unfollowed := true, recurses := true, apart := false, narrowed := true }
def FnExactRepairRankUptoSaid : Prop := fnExactRepairRankUptoRow.holds Try.pinned (OpenSpec.upto fnExactRepairRankSpec)

/-- 'laws.FnExactNthRepair', WHERE WHAT IT READS IS OF BULK AT MOST 1048576: true; the input reads as it did. -/
def fnExactNthRepairUptoRow : OpenClaim := { program := "ytknnnebjjjldpab", sum := "aeb33a198ecbf6c7ef05670da5b6340690fd2a3f9424fa51647e99f01018bccc", func := "loop.example/g01918/laws.FnExactNthRepair", spec := "fnExactNthRepair", inPlace := ["internal/bytealg.abigen_runtime_cmpstring"], unfollowed := true, recurses := true, apart := false, narrowed := true }
def FnExactNthRepairUptoSaid : Prop := fnExactNthRepairUptoRow.holds Try.pinned (OpenSpec.upto fnExactNthRepairSpec)

/-- 'laws.FnExactNextRepair', WHERE WHAT IT READS IS OF BULK AT MOST 1048576: true; the input reads as it did. -/
def fnExactNextRepairUptoRow : OpenClaim := { program := "ytknnnebjjjldpab", sum := "aeb33a198ecbf6c7ef05670da5b6340690fd2a3f9424fa51647e99f01018bccc", func := "loop.example/g01918/laws.FnExactNextRepair", spec := "fnExactNextRepair", inPlace := ["internal/bytealg.abigen_runtime_cmpstring"], unfollowed := true, recurses := true, apart := false, narrowed := true }
def FnExactNextRepairUptoSaid : Prop := fnExactNextRepairUptoRow.holds Try.pinned (OpenSpec.upto fnExactNextRepairSpec)

/-- 'laws.FnExactExtendToRepair', WHERE WHAT IT READS IS OF BULK AT MOST 1048576: true; the input reads as it did. -/
def fnExactExtendToRepairUptoRow : OpenClaim := { program := "ytknnnebjjjldpab", sum := "aeb33a198ecbf6c7ef05670da5b6340690fd2a3f9424fa51647e99f01018bccc", func := "loop.example/g01918/laws.FnExactExtendToRepair", spec := "fnExactExtendToRepair", inPlace := ["internal/bytealg.abigen_runtime_cmpstring"], unfollowed := true, recurses := true, apart := false, narrowed := true }
def FnExactExtendToRepairUptoSaid : Prop := fnExactExtendToRepairUptoRow.holds Try.pinned (OpenSpec.upto fnExactExtendToRepairSpec)

/-- 'laws.FnExactKeyConflicts', WHERE WHAT IT READS IS OF BULK AT MOST 1048576: true; the input reads as it did. -/
def fnExactKeyConflictsUptoRow : OpenClaim := { program := "ytknnnebjjjldpab", sum := "aeb33a198ecbf6c7ef05670da5b6340690fd2a3f9424fa51647e99f01018bccc", func := "loop.example/g01918/laws.FnExactKeyConflicts", spec := "fnExactKeyConflicts", inPlace := ["internal/bytealg.abigen_runtime_cmpstring"], unfollowed := true, recurses := true, apart := false, narrowed := true }
def FnExactKeyConflictsUptoSaid : Prop := fnExactKeyConflictsUptoRow.holds Try.pinned (OpenSpec.upto fnExactKeyConflictsSpec)

/-- 'laws.FnExactConflictEdges', WHERE WHAT IT READS IS OF BULK AT MOST 1048576: true; the input reads as it did. -/
def fnExactConflictEdgesUptoRow : OpenClaim := { program := "ytknnnebjjjldpab", sum := "aeb33a198ecbf6c7ef05670da5b6340690fd2a3f9424fa51647e99f01018bccc", func := "loop.example/g01918/laws.FnExactConflictEdges", spec := "fnExactConflictEdges", inPlace := ["internal/bytealg.abigen_runtime_cmpstring"], unfollowed := true, recurses := true, apart := false, narrowed := true }
def FnExactConflictEdgesUptoSaid : Prop := fnExactConflictEdgesUptoRow.holds Try.pinned (OpenSpec.upto fnExactConflictEdgesSpec)

/-- 'laws.FnExactSatisfiesConstraints', WHERE WHAT IT READS IS OF BULK AT MOST 1048576: true; the input reads as it did. -/
def fnExactSatisfiesConstraintsUptoRow : OpenClaim := { program := "ytknnnebjjjldpab", sum := "aeb33a198ecbf6c7ef05670da5b6340690fd2a3f9424fa51647e99f01018bccc", func := "loop.example/g01918/laws.FnExactSatisfiesConstraints", spec := "fnExactSatisfiesConstraints", inPlace := ["internal/bytealg.abigen_runtime_cmpstring"], unfollowed := true, recurses := true, apart := false, narrowed := true }
def FnExactSatisfiesConstraintsUptoSaid : Prop := fnExactSatisfiesConstraintsUptoRow.holds Try.pinned (OpenSpec.upto fnExactSatisfiesConstraintsSpec)

/-- 'laws.FnExactInsertFact', WHERE WHAT IT READS IS OF BULK AT MOST 1048576: true; the input reads as it did. -/
def fnExactInsertFactUptoRow : OpenClaim := { program := "ytknnnebjjjldpab", sum := "aeb33a198ecbf6c7ef05670da5b6340690fd2a3f9424fa51647e99f01018bccc", func := "loop.example/g01918/laws.FnExactInsertFact", spec := "fnExactInsertFact", inPlace := ["internal/bytealg.abigen_runtime_cmpstring", "slices.overlaps[loop.example/g01918/impl.Fact]"], unfollowed := true, recurses := true, apart := false, narrowed := true }
def FnExactInsertFactUptoSaid : Prop := fnExactInsertFactUptoRow.holds Try.pinned (OpenSpec.upto fnExactInsertFactSpec)

/-- 'laws.FnExactDeleteFact', WHERE WHAT IT READS IS OF BULK AT MOST 1048576: true; the input reads as it did. -/
def fnExactDeleteFactUptoRow : OpenClaim := { program := "ytknnnebjjjldpab", sum := "aeb33a198ecbf6c7ef05670da5b6340690fd2a3f9424fa51647e99f01018bccc", func := "loop.example/g01918/laws.FnExactDeleteFact", spec := "fnExactDeleteFact", inPlace := ["internal/bytealg.abigen_runtime_cmpstring"], unfollowed := true, recurses := true, apart := false, narrowed := true }
def FnExactDeleteFactUptoSaid : Prop := fnExactDeleteFactUptoRow.holds Try.pinned (OpenSpec.upto fnExactDeleteFactSpec)

end Rows
end Go.Proofs.Ytknnnebjjjldpab
