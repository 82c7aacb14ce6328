/-
  No cell of these rows narrows 'for every input' (looked for: loops, veiled, ifaces, maps, wideKeys, modest, calm, conditions, laid).
  DERIVED. THE GIVEN ROWS OF THIS SEAT. 12 by the template 'for every input the law returns true; each argument reads behind the call as it read before'; 0 by the template 'total and deterministic' (their statements: YtgoofnhhhlncoaaTotals.lean).
  GIVEN WITH THE SEED: the statements are not yours to turn. If you find one false, say at which input.
  Laid BY PROGRAM, IN A SANDBOX (cutbox-rows.mjs): the forced cells as the released guide's own fill.sh prints them over the translation b0304d416669899e… (all of the seat's roots in one cut). By AI agents, Wed Nov 11 2026. No macro, syntax, notation, axiom, sorry.
-/
import Derived.Test.YtgoofnhhhlncoaaChecked
import GoSem.Claim
import GoSem.ClaimJoined
import GoSem.ClaimMapViews
import Derived.JoinedTies
import Derived.KernelRfl
namespace Go.Proofs.Ytgoofnhhhlncoaa
/- THE CELL 'sum', in the pinned program and in every row, IS THE sha256 OF THE DUMP (.gsa) THAT YtgoofnhhhlncoaaProg.lean LOADS. Nothing in Lean hashes anything: it is a label: what it is worth is what the hold of that sum in a sandbox is worth. -/
noncomputable def Try.pinned : Pinned := { name := "ytgoofnhhhlncoaa", sum := "b0304d416669899ec6c60785b2c52f2aaf70103c0f8b681facbbd6351d289ca7", checked := Try.checked }
namespace Rows
def none {H : Type} : Left H := { results := [], args := [] }

/-- 'laws.FnExactRemoveAtom': WHATEVER THE INPUT: true; the input reads as it did. -/
def fnExactRemoveAtomSpec : ChangeSpec := { name := "fnExactRemoveAtom", fn := fun _ => fun
  | [d1, d2] => { results := [.lit (.bool true)], args := [d1, d2] }
  | _ => none }
def fnExactRemoveAtomRow : OpenClaim := { program := "ytgoofnhhhlncoaa", sum := "b0304d416669899ec6c60785b2c52f2aaf70103c0f8b681facbbd6351d289ca7", func := "loop.example/g01918/laws.FnExactRemoveAtom", spec := "fnExactRemoveAtom", apart := false }
def FnExactRemoveAtomSaid : Prop := fnExactRemoveAtomRow.holds Try.pinned (OpenSpec.ofChange fnExactRemoveAtomSpec)

/-- ITS FALSE NEIGHBOUR: 'it returns false'. Refute it at one input. -/
def fnExactRemoveAtomWrong : ChangeSpec := { name := "fnExactRemoveAtom", fn := fun _ => fun
  | [d1, d2] => { results := [.lit (.bool false)], args := [d1, d2] }
  | _ => none }
def FnExactRemoveAtomWrongFalsely : Prop := fnExactRemoveAtomRow.holds Try.pinned (OpenSpec.ofChange fnExactRemoveAtomWrong)

/-- 'laws.FnExactInsertFact': WHATEVER THE INPUT: true; the input reads as it did. -/
def fnExactInsertFactSpec : ChangeSpec := { name := "fnExactInsertFact", fn := fun _ => fun
  | [d1, d2] => { results := [.lit (.bool true)], args := [d1, d2] }
  | _ => none }
def fnExactInsertFactRow : OpenClaim := { program := "ytgoofnhhhlncoaa", sum := "b0304d416669899ec6c60785b2c52f2aaf70103c0f8b681facbbd6351d289ca7", func := "loop.example/g01918/laws.FnExactInsertFact", spec := "fnExactInsertFact", inPlace := ["internal/bytealg.abigen_runtime_cmpstring", "slices.overlaps[loop.example/g01918/impl.Fact]"], unfollowed := true, recurses := true, apart := false }
def FnExactInsertFactSaid : Prop := fnExactInsertFactRow.holds Try.pinned (OpenSpec.ofChange fnExactInsertFactSpec)

/-- ITS FALSE NEIGHBOUR: 'it returns false'. Refute it at one input. -/
def fnExactInsertFactWrong : ChangeSpec := { name := "fnExactInsertFact", fn := fun _ => fun
  | [d1, d2] => { results := [.lit (.bool false)], args := [d1, d2] }
  | _ => none }
def FnExactInsertFactWrongFalsely : Prop := fnExactInsertFactRow.holds Try.pinned (OpenSpec.ofChange fnExactInsertFactWrong)

/-- 'laws.FnExactDeleteFact': WHATEVER THE INPUT: true; the input reads as it did. -/
def fnExactDeleteFactSpec : ChangeSpec := { name := "fnExactDeleteFact", fn := fun _ => fun
  | [d1, d2] => { results := [.lit (.bool true)], args := [d1, d2] }
  | _ => none }
def fnExactDeleteFactRow : OpenClaim := { program := "ytgoofnhhhlncoaa", sum := "b0304d416669899ec6c60785b2c52f2aaf70103c0f8b681facbbd6351d289ca7", func := "loop.example/g01918/laws.FnExactDeleteFact", spec := "fnExactDeleteFact", inPlace := ["internal/bytealg.abigen_runtime_cmpstring"], unfollowed := true, recurses := true, apart := false }
def FnExactDeleteFactSaid : Prop := fnExactDeleteFactRow.holds Try.pinned (OpenSpec.ofChange fnExactDeleteFactSpec)

/-- ITS FALSE NEIGHBOUR: 'it returns false'. Refute it at one input. -/
def fnExactDeleteFactWrong : ChangeSpec := { name := "fnExactDeleteFact", fn := fun _ => fun
  | [d1, d2] => { results := [.lit (.bool false)], args := [d1, d2] }
  | _ => none }
def FnExactDeleteFactWrongFalsely : Prop := fnExactDeleteFactRow.holds Try.pinned (OpenSpec.ofChange fnExactDeleteFactWrong)

/-- 'laws.FnExactEqualViews': WHATEVER THE INPUT: true; the input reads as it did. -/
def fnExactEqualViewsSpec : ChangeSpec := { name := "fnExactEqualViews", fn := fun _ => fun
  | [d1, d2] => { results := [.lit (.bool true)], args := [d1, d2] }
  | _ => none }
def fnExactEqualViewsRow : OpenClaim := { program := "ytgoofnhhhlncoaa", sum := "b0304d416669899ec6c60785b2c52f2aaf70103c0f8b681facbbd6351d289ca7", func := "loop.example/g01918/laws.FnExactEqualViews", spec := "fnExactEqualViews", unfollowed := true, recurses := true, apart := false }
def FnExactEqualViewsSaid : Prop := fnExactEqualViewsRow.holds Try.pinned (OpenSpec.ofChange fnExactEqualViewsSpec)

/-- ITS FALSE NEIGHBOUR: 'it returns false'. Refute it at one input. -/
def fnExactEqualViewsWrong : ChangeSpec := { name := "fnExactEqualViews", fn := fun _ => fun
  | [d1, d2] => { results := [.lit (.bool false)], args := [d1, d2] }
  | _ => none }
def FnExactEqualViewsWrongFalsely : Prop := fnExactEqualViewsRow.holds Try.pinned (OpenSpec.ofChange fnExactEqualViewsWrong)

/-- 'laws.FnExactCertainRowsOf': WHATEVER THE INPUT: true; the input reads as it did. -/
def fnExactCertainRowsOfSpec : ChangeSpec := { name := "fnExactCertainRowsOf", fn := fun _ => fun
  | [d] => { results := [.lit (.bool true)], args := [d] }
  | _ => none }
def fnExactCertainRowsOfRow : OpenClaim := { program := "ytgoofnhhhlncoaa", sum := "b0304d416669899ec6c60785b2c52f2aaf70103c0f8b681facbbd6351d289ca7", func := "loop.example/g01918/laws.FnExactCertainRowsOf", spec := "fnExactCertainRowsOf", unfollowed := true, recurses := true, apart := false }
def FnExactCertainRowsOfSaid : Prop := fnExactCertainRowsOfRow.holds Try.pinned (OpenSpec.ofChange fnExactCertainRowsOfSpec)

/-- ITS FALSE NEIGHBOUR: 'it returns false'. Refute it at one input. -/
def fnExactCertainRowsOfWrong : ChangeSpec := { name := "fnExactCertainRowsOf", fn := fun _ => fun
  | [d] => { results := [.lit (.bool false)], args := [d] }
  | _ => none }
def FnExactCertainRowsOfWrongFalsely : Prop := fnExactCertainRowsOfRow.holds Try.pinned (OpenSpec.ofChange fnExactCertainRowsOfWrong)

/-- 'laws.FnExactIsIndependent': WHATEVER THE INPUT: true; the input reads as it did. -/
def fnExactIsIndependentSpec : ChangeSpec := { name := "fnExactIsIndependent", fn := fun _ => fun
  | [d1, d2] => { results := [.lit (.bool true)], args := [d1, d2] }
  | _ => none }
def fnExactIsIndependentRow : OpenClaim := { program := "ytgoofnhhhlncoaa", sum := "b0304d416669899ec6c60785b2c52f2aaf70103c0f8b681facbbd6351d289ca7", func := "loop.example/g01918/laws.FnExactIsIndependent", spec := "fnExactIsIndependent", apart := false }
def FnExactIsIndependentSaid : Prop := fnExactIsIndependentRow.holds Try.pinned (OpenSpec.ofChange fnExactIsIndependentSpec)

/-- ITS FALSE NEIGHBOUR: 'it returns false'. Refute it at one input. -/
def fnExactIsIndependentWrong : ChangeSpec := { name := "fnExactIsIndependent", fn := fun _ => fun
  | [d1, d2] => { results := [.lit (.bool false)], args := [d1, d2] }
  | _ => none }
def FnExactIsIndependentWrongFalsely : Prop := fnExactIsIndependentRow.holds Try.pinned (OpenSpec.ofChange fnExactIsIndependentWrong)

/-- 'laws.FnExactIsCovered': WHATEVER THE INPUT: true; the input reads as it did. -/
def fnExactIsCoveredSpec : ChangeSpec := { name := "fnExactIsCovered", fn := fun _ => fun
  | [d1, d2] => { results := [.lit (.bool true)], args := [d1, d2] }
  | _ => none }
def fnExactIsCoveredRow : OpenClaim := { program := "ytgoofnhhhlncoaa", sum := "b0304d416669899ec6c60785b2c52f2aaf70103c0f8b681facbbd6351d289ca7", func := "loop.example/g01918/laws.FnExactIsCovered", spec := "fnExactIsCovered", apart := false }
def FnExactIsCoveredSaid : Prop := fnExactIsCoveredRow.holds Try.pinned (OpenSpec.ofChange fnExactIsCoveredSpec)

/-- ITS FALSE NEIGHBOUR: 'it returns false'. Refute it at one input. -/
def fnExactIsCoveredWrong : ChangeSpec := { name := "fnExactIsCovered", fn := fun _ => fun
  | [d1, d2] => { results := [.lit (.bool false)], args := [d1, d2] }
  | _ => none }
def FnExactIsCoveredWrongFalsely : Prop := fnExactIsCoveredRow.holds Try.pinned (OpenSpec.ofChange fnExactIsCoveredWrong)

/-- 'laws.FnExactMinimalSets': WHATEVER THE INPUT: true; the input reads as it did. -/
def fnExactMinimalSetsSpec : ChangeSpec := { name := "fnExactMinimalSets", fn := fun _ => fun
  | [d] => { results := [.lit (.bool true)], args := [d] }
  | _ => none }
def fnExactMinimalSetsRow : OpenClaim := { program := "ytgoofnhhhlncoaa", sum := "b0304d416669899ec6c60785b2c52f2aaf70103c0f8b681facbbd6351d289ca7", func := "loop.example/g01918/laws.FnExactMinimalSets", spec := "fnExactMinimalSets", apart := false }
def FnExactMinimalSetsSaid : Prop := fnExactMinimalSetsRow.holds Try.pinned (OpenSpec.ofChange fnExactMinimalSetsSpec)

/-- ITS FALSE NEIGHBOUR: 'it returns false'. Refute it at one input. -/
def fnExactMinimalSetsWrong : ChangeSpec := { name := "fnExactMinimalSets", fn := fun _ => fun
  | [d] => { results := [.lit (.bool false)], args := [d] }
  | _ => none }
def FnExactMinimalSetsWrongFalsely : Prop := fnExactMinimalSetsRow.holds Try.pinned (OpenSpec.ofChange fnExactMinimalSetsWrong)

/-- 'laws.FnExactLadderDatabase': WHATEVER THE INPUT: true; the input reads as it did. -/
def fnExactLadderDatabaseSpec : ChangeSpec := { name := "fnExactLadderDatabase", fn := fun _ => fun
  | [d1, d2] => { results := [.lit (.bool true)], args := [d1, d2] }
  | _ => none }
def fnExactLadderDatabaseRow : OpenClaim := { program := "ytgoofnhhhlncoaa", sum := "b0304d416669899ec6c60785b2c52f2aaf70103c0f8b681facbbd6351d289ca7", func := "loop.example/g01918/laws.FnExactLadderDatabase", spec := "fnExactLadderDatabase", unfollowed := true, recurses := true, apart := false }
def FnExactLadderDatabaseSaid : Prop := fnExactLadderDatabaseRow.holds Try.pinned (OpenSpec.ofChange fnExactLadderDatabaseSpec)

/-- ITS FALSE NEIGHBOUR: 'it returns false'. Refute it at one input. -/
def fnExactLadderDatabaseWrong : ChangeSpec := { name := "fnExactLadderDatabase", fn := fun _ => fun
  | [d1, d2] => { results := [.lit (.bool false)], args := [d1, d2] }
  | _ => none }
def FnExactLadderDatabaseWrongFalsely : Prop := fnExactLadderDatabaseRow.holds Try.pinned (OpenSpec.ofChange fnExactLadderDatabaseWrong)

/-- 'laws.FnExactCountModels': WHATEVER THE INPUT: true; the input reads as it did. -/
def fnExactCountModelsSpec : ChangeSpec := { name := "fnExactCountModels", fn := fun _ => fun
  | [d1, d2] => { results := [.lit (.bool true)], args := [d1, d2] }
  | _ => none }
def fnExactCountModelsRow : OpenClaim := { program := "ytgoofnhhhlncoaa", sum := "b0304d416669899ec6c60785b2c52f2aaf70103c0f8b681facbbd6351d289ca7", func := "loop.example/g01918/laws.FnExactCountModels", spec := "fnExactCountModels", unfollowed := true, recurses := true, apart := false }
def FnExactCountModelsSaid : Prop := fnExactCountModelsRow.holds Try.pinned (OpenSpec.ofChange fnExactCountModelsSpec)

/-- ITS FALSE NEIGHBOUR: 'it returns false'. Refute it at one input. -/
def fnExactCountModelsWrong : ChangeSpec := { name := "fnExactCountModels", fn := fun _ => fun
  | [d1, d2] => { results := [.lit (.bool false)], args := [d1, d2] }
  | _ => none }
def FnExactCountModelsWrongFalsely : Prop := fnExactCountModelsRow.holds Try.pinned (OpenSpec.ofChange fnExactCountModelsWrong)

/-- 'laws.FnExactIsValidRewriting': WHATEVER THE INPUT: true; the input reads as it did. -/
def fnExactIsValidRewritingSpec : ChangeSpec := { name := "fnExactIsValidRewriting", fn := fun _ => fun
  | [d1, d2] => { results := [.lit (.bool true)], args := [d1, d2] }
  | _ => none }
def fnExactIsValidRewritingRow : OpenClaim := { program := "ytgoofnhhhlncoaa", sum := "b0304d416669899ec6c60785b2c52f2aaf70103c0f8b681facbbd6351d289ca7", func := "loop.example/g01918/laws.FnExactIsValidRewriting", spec := "fnExactIsValidRewriting", inPlace := ["internal/bytealg.abigen_runtime_cmpstring"], unfollowed := true, recurses := true, apart := false }
def FnExactIsValidRewritingSaid : Prop := fnExactIsValidRewritingRow.holds Try.pinned (OpenSpec.ofChange fnExactIsValidRewritingSpec)

/-- ITS FALSE NEIGHBOUR: 'it returns false'. Refute it at one input. -/
def fnExactIsValidRewritingWrong : ChangeSpec := { name := "fnExactIsValidRewriting", fn := fun _ => fun
  | [d1, d2] => { results := [.lit (.bool false)], args := [d1, d2] }
  | _ => none }
def FnExactIsValidRewritingWrongFalsely : Prop := fnExactIsValidRewritingRow.holds Try.pinned (OpenSpec.ofChange fnExactIsValidRewritingWrong)

/-- 'laws.FnExactLargestConflicts': WHATEVER THE INPUT: true; the input reads as it did. -/
def fnExactLargestConflictsSpec : ChangeSpec := { name := "fnExactLargestConflicts", fn := fun _ => fun
  | [d] => { results := [.lit (.bool true)], args := [d] }
  | _ => none }
def fnExactLargestConflictsRow : OpenClaim := { program := "ytgoofnhhhlncoaa", sum := "b0304d416669899ec6c60785b2c52f2aaf70103c0f8b681facbbd6351d289ca7", func := "loop.example/g01918/laws.FnExactLargestConflicts", spec := "fnExactLargestConflicts", inPlace := ["internal/bytealg.abigen_runtime_cmpstring"], unfollowed := true, recurses := true, apart := false }
def FnExactLargestConflictsSaid : Prop := fnExactLargestConflictsRow.holds Try.pinned (OpenSpec.ofChange fnExactLargestConflictsSpec)

/-- ITS FALSE NEIGHBOUR: 'it returns false'. Refute it at one input. -/
def fnExactLargestConflictsWrong : ChangeSpec := { name := "fnExactLargestConflicts", fn := fun _ => fun
  | [d] => { results := [.lit (.bool false)], args := [d] }
  | _ => none }
def FnExactLargestConflictsWrongFalsely : Prop := fnExactLargestConflictsRow.holds Try.pinned (OpenSpec.ofChange fnExactLargestConflictsWrong)

/- THE SECOND FORM. 'bulk': how many values and letters a reading holds, each counted each time it is reached (what is shared counts as often as it is met; a slice's spare places count too). A statement '..UptoSaid' is the law's where the arguments, and the package variables that the reading takes, are together of bulk at most 1048576: NARROWER than '..Said'. Prove '..Said' where nothing that the law and all that it calls make is longer than what came in: it says more and counts as full. Else prove '..UptoSaid'. A law counts once. -/
mutual
def uptoBulk {H : Type} : DataW H → Nat
  | .lit (.string bytes) => bytes.length + 1
  | .lit _ => 1
  | .nil => 1
  | .ptr d => uptoBulk d + 1
  | .slice elems spare => uptoBulkAll elems + uptoBulkAll spare + 1
  | .agg parts => uptoBulkAll parts + 1
  | .iface _ d => uptoBulk d + 1
  | .map entries => uptoBulkEntries entries + 1
  | .held _ => 1
def uptoBulkAll {H : Type} : List (DataW H) → Nat
  | [] => 0
  | d :: r => uptoBulk d + uptoBulkAll r
def uptoBulkEntries {H : Type} : List (Lit × DataW H) → Nat
  | [] => 0
  | x :: r => uptoBulkEntry x + uptoBulkEntries r
def uptoBulkEntry {H : Type} : Lit × DataW H → Nat
  | (.string bytes, d) => bytes.length + uptoBulk d + 1
  | (_, d) => uptoBulk d + 1
 end
def uptoSmall : (H : Type) → List (DataW H) → Bool := fun _ ds => decide (uptoBulkAll ds ≤ 1048576)
def OpenSpec.upto (s : _root_.Go.ChangeSpec) : _root_.Go.OpenSpec := { _root_.Go.OpenSpec.ofChange s with cond := some uptoSmall }

/-- 'laws.FnExactRemoveAtom', WHERE WHAT IT READS IS OF BULK AT MOST 1048576: true; the input reads as it did. -/
def fnExactRemoveAtomUptoRow : OpenClaim := { program := "ytgoofnhhhlncoaa", sum := "b0304d416669899ec6c60785b2c52f2aaf70103c0f8b681facbbd6351d289ca7", func := "loop.example/g01918/laws.FnExactRemoveAtom", spec := "fnExactRemoveAtom", apart := false, narrowed := true }
def FnExactRemoveAtomUptoSaid : Prop := fnExactRemoveAtomUptoRow.holds Try.pinned (OpenSpec.upto fnExactRemoveAtomSpec)

/-- 'laws.FnExactInsertFact', WHERE WHAT IT READS IS OF BULK AT MOST 1048576: true; the input reads as it did. -/
def fnExactInsertFactUptoRow : OpenClaim := { program := "ytgoofnhhhlncoaa", sum := "b0304d416669899ec6c60785b2c52f2aaf70103c0f8b681facbbd6351d289ca7", func := "loop.example/g01918/laws.FnExactInsertFact", spec := "fnExactInsertFact", inPlace := ["internal/bytealg.abigen_runtime_cmpstring", "slices.overlaps[loop.example/g01918/impl.Fact]"], unfollowed := true, recurses := true, apart := false, narrowed := true }
def FnExactInsertFactUptoSaid : Prop := fnExactInsertFactUptoRow.holds Try.pinned (OpenSpec.upto fnExactInsertFactSpec)

/-- 'laws.FnExactDeleteFact', WHERE WHAT IT READS IS OF BULK AT MOST 1048576: true; the input reads as it did. -/
def fnExactDeleteFactUptoRow : OpenClaim := { program := "ytgoofnhhhlncoaa", sum := "b0304d416669899ec6c60785b2c52f2aaf70103c0f8b681facbbd6351d289ca7", func := "loop.example/g01918/laws.FnExactDeleteFact", spec := "fnExactDeleteFact", inPlace := ["internal/bytealg.abigen_runtime_cmpstring"], unfollowed := true, recurses := true, apart := false, narrowed := true }
def FnExactDeleteFactUptoSaid : Prop := fnExactDeleteFactUptoRow.holds Try.pinned (OpenSpec.upto fnExactDeleteFactSpec)

/-- 'laws.FnExactEqualViews', WHERE WHAT IT READS IS OF BULK AT MOST 1048576: true; the input reads as it did. -/
def fnExactEqualViewsUptoRow : OpenClaim := { program := "ytgoofnhhhlncoaa", sum := "b0304d416669899ec6c60785b2c52f2aaf70103c0f8b681facbbd6351d289ca7", func := "loop.example/g01918/laws.FnExactEqualViews", spec := "fnExactEqualViews", unfollowed := true, recurses := true, apart := false, narrowed := true }
def FnExactEqualViewsUptoSaid : Prop := fnExactEqualViewsUptoRow.holds Try.pinned (OpenSpec.upto fnExactEqualViewsSpec)

/-- 'laws.FnExactCertainRowsOf', WHERE WHAT IT READS IS OF BULK AT MOST 1048576: true; the input reads as it did. -/
def fnExactCertainRowsOfUptoRow : OpenClaim := { program := "ytgoofnhhhlncoaa", sum := "b0304d416669899ec6c60785b2c52f2aaf70103c0f8b681facbbd6351d289ca7", func := "loop.example/g01918/laws.FnExactCertainRowsOf", spec := "fnExactCertainRowsOf", unfollowed := true, recurses := true, apart := false, narrowed := true }
def FnExactCertainRowsOfUptoSaid : Prop := fnExactCertainRowsOfUptoRow.holds Try.pinned (OpenSpec.upto fnExactCertainRowsOfSpec)

/-- 'laws.FnExactIsIndependent', WHERE WHAT IT READS IS OF BULK AT MOST 1048576: true; the input reads as it did. -/
def fnExactIsIndependentUptoRow : OpenClaim := { program := "ytgoofnhhhlncoaa", sum := "b0304d416669899ec6c60785b2c52f2aaf70103c0f8b681facbbd6351d289ca7", func := "loop.example/g01918/laws.FnExactIsIndependent", spec := "fnExactIsIndependent", apart := false, narrowed := true }
def FnExactIsIndependentUptoSaid : Prop := fnExactIsIndependentUptoRow.holds Try.pinned (OpenSpec.upto fnExactIsIndependentSpec)

/-- 'laws.FnExactIsCovered', WHERE WHAT IT READS IS OF BULK AT MOST 1048576: true; the input reads as it did. -/
def fnExactIsCoveredUptoRow : OpenClaim := { program := "ytgoofnhhhlncoaa", sum := "b0304d416669899ec6c60785b2c52f2aaf70103c0f8b681facbbd6351d289ca7", func := "loop.example/g01918/laws.FnExactIsCovered", spec := "fnExactIsCovered", apart := false, narrowed := true }
def FnExactIsCoveredUptoSaid : Prop := fnExactIsCoveredUptoRow.holds Try.pinned (OpenSpec.upto fnExactIsCoveredSpec)

/-- 'laws.FnExactMinimalSets', WHERE WHAT IT READS IS OF BULK AT MOST 1048576: true; the input reads as it did. -/
def fnExactMinimalSetsUptoRow : OpenClaim := { program := "ytgoofnhhhlncoaa", sum := "b0304d416669899ec6c60785b2c52f2aaf70103c0f8b681facbbd6351d289ca7", func := "loop.example/g01918/laws.FnExactMinimalSets", spec := "fnExactMinimalSets", apart := false, narrowed := true }
def FnExactMinimalSetsUptoSaid : Prop := fnExactMinimalSetsUptoRow.holds Try.pinned (OpenSpec.upto fnExactMinimalSetsSpec)

/-- 'laws.FnExactLadderDatabase', WHERE WHAT IT READS IS OF BULK AT MOST 1048576: true; the input reads as it did. -/
def fnExactLadderDatabaseUptoRow : OpenClaim := { program := "ytgoofnhhhlncoaa", sum := "b0304d416669899ec6c60785b2c52f2aaf70103c0f8b681facbbd6351d289ca7", func := "loop.example/g01918/laws.FnExactLadderDatabase", spec := "fnExactLadderDatabase", unfollowed := true, recurses := true, apart := false, narrowed := true }
def FnExactLadderDatabaseUptoSaid : Prop := fnExactLadderDatabaseUptoRow.holds Try.pinned (OpenSpec.upto fnExactLadderDatabaseSpec)

/-- 'laws.FnExactCountModels', WHERE WHAT IT READS IS OF BULK AT MOST 1048576: true; the input reads as it did. -/
def fnExactCountModelsUptoRow : OpenClaim := { program := "ytgoofnhhhlncoaa", sum := "b0304d416669899ec6c60785b2c52f2aaf70103c0f8b681facbbd6351d289ca7", func := "loop.example/g01918/laws.FnExactCountModels", spec := "fnExactCountModels", unfollowed := true, recurses := true, apart := false, narrowed := true }
def FnExactCountModelsUptoSaid : Prop := fnExactCountModelsUptoRow.holds Try.pinned (OpenSpec.upto fnExactCountModelsSpec)

/-- 'laws.FnExactIsValidRewriting', WHERE WHAT IT READS IS OF BULK AT MOST 1048576: true; the input reads as it did. -/
def fnExactIsValidRewritingUptoRow : OpenClaim := { program := "ytgoofnhhhlncoaa", sum := "b0304d416669899ec6c60785b2c52f2aaf70103c0f8b681facbbd6351d289ca7", func := "loop.example/g01918/laws.FnExactIsValidRewriting", spec := "fnExactIsValidRewriting", inPlace := ["internal/bytealg.abigen_runtime_cmpstring"], unfollowed := true, recurses := true, apart := false, narrowed := true }
def FnExactIsValidRewritingUptoSaid : Prop := fnExactIsValidRewritingUptoRow.holds Try.pinned (OpenSpec.upto fnExactIsValidRewritingSpec)

/-- 'laws.FnExactLargestConflicts', WHERE WHAT IT READS IS OF BULK AT MOST 1048576: true; the input reads as it did. -/
def fnExactLargestConflictsUptoRow : OpenClaim := { program := "ytgoofnhhhlncoaa", sum := "b0304d416669899ec6c60785b2c52f2aaf70103c0f8b681facbbd6351d289ca7", func := "loop.example/g01918/laws.FnExactLargestConflicts", spec := "fnExactLargestConflicts", inPlace := ["internal/bytealg.abigen_runtime_cmpstring"], unfollowed := true, recurses := true, apart := false, narrowed := true }
def FnExactLargestConflictsUptoSaid : Prop := fnExactLargestConflictsUptoRow.holds Try.pinned (OpenSpec.upto fnExactLargestConflictsSpec)

end Rows
end Go.Proofs.Ytgoofnhhhlncoaa
