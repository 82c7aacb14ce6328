/-
  No cell of these rows narrows 'for every input' (looked for: loops, veiled, ifaces, maps, wideKeys, modest, calm, conditions, laid).
  DERIVED. THE GIVEN ROWS OF THIS SEAT. 5 by the template 'for every input the law returns true; each argument reads behind the call as it read before'; 0 by the template 'total and deterministic' (their statements: YtioofopbidgpeaaTotals.lean).
  GIVEN WITH THE SEED: the statements are not yours to turn. If you find one false, say at which input.
  Laid BY PROGRAM, IN A SANDBOX (cutbox-rows.mjs): the forced cells as the released guide's own fill.sh prints them over the translation 741a44b7ad5c24b1… (all of the seat's roots in one cut). By AI agents, Wed Nov 11 2026. No macro, syntax, notation, axiom, sorry.
-/
import Derived.Test.YtioofopbidgpeaaChecked
import GoSem.Claim
import GoSem.ClaimJoined
import GoSem.ClaimMapViews
import Derived.JoinedTies
import Derived.KernelRfl
namespace Go.Proofs.Ytioofopbidgpeaa
/- THE CELL 'sum', in the pinned program and in every row, IS THE sha256 OF THE DUMP (.gsa) THAT YtioofopbidgpeaaProg.lean LOADS. Nothing in Lean hashes anything: it is a label: what it is worth is what the hold of that sum in a sandbox is worth. -/
noncomputable def Try.pinned : Pinned := { name := "ytioofopbidgpeaa", sum := "741a44b7ad5c24b1aab8f011ce77cfd5696c59dd9a551608ffacc71f9686fb91", checked := Try.checked }
namespace Rows
def none {H : Type} : Left H := { results := [], args := [] }

/-- 'laws.FnExactIsPartialRepair': WHATEVER THE INPUT: true; the input reads as it did. -/
def fnExactIsPartialRepairSpec : ChangeSpec := { name := "fnExactIsPartialRepair", fn := fun _ => fun
  | [d1, d2] => { results := [.lit (.bool true)], args := [d1, d2] }
  | _ => none }
def fnExactIsPartialRepairRow : OpenClaim := { program := "ytioofopbidgpeaa", sum := "741a44b7ad5c24b1aab8f011ce77cfd5696c59dd9a551608ffacc71f9686fb91", func := "loop.example/g01918/laws.FnExactIsPartialRepair", spec := "fnExactIsPartialRepair", inPlace := ["internal/bytealg.abigen_runtime_cmpstring"], unfollowed := true, recurses := true, apart := false }
def FnExactIsPartialRepairSaid : Prop := fnExactIsPartialRepairRow.holds Try.pinned (OpenSpec.ofChange fnExactIsPartialRepairSpec)

/-- ITS FALSE NEIGHBOUR: 'it returns false'. Refute it at one input. -/
def fnExactIsPartialRepairWrong : ChangeSpec := { name := "fnExactIsPartialRepair", fn := fun _ => fun
  | [d1, d2] => { results := [.lit (.bool false)], args := [d1, d2] }
  | _ => none }
def FnExactIsPartialRepairWrongFalsely : Prop := fnExactIsPartialRepairRow.holds Try.pinned (OpenSpec.ofChange fnExactIsPartialRepairWrong)

/-- 'laws.FnExactIsRepair': WHATEVER THE INPUT: true; the input reads as it did. -/
def fnExactIsRepairSpec : ChangeSpec := { name := "fnExactIsRepair", fn := fun _ => fun
  | [d1, d2] => { results := [.lit (.bool true)], args := [d1, d2] }
  | _ => none }
def fnExactIsRepairRow : OpenClaim := { program := "ytioofopbidgpeaa", sum := "741a44b7ad5c24b1aab8f011ce77cfd5696c59dd9a551608ffacc71f9686fb91", func := "loop.example/g01918/laws.FnExactIsRepair", spec := "fnExactIsRepair", inPlace := ["internal/bytealg.abigen_runtime_cmpstring"], unfollowed := true, recurses := true, apart := false }
def FnExactIsRepairSaid : Prop := fnExactIsRepairRow.holds Try.pinned (OpenSpec.ofChange fnExactIsRepairSpec)

/-- ITS FALSE NEIGHBOUR: 'it returns false'. Refute it at one input. -/
def fnExactIsRepairWrong : ChangeSpec := { name := "fnExactIsRepair", fn := fun _ => fun
  | [d1, d2] => { results := [.lit (.bool false)], args := [d1, d2] }
  | _ => none }
def FnExactIsRepairWrongFalsely : Prop := fnExactIsRepairRow.holds Try.pinned (OpenSpec.ofChange fnExactIsRepairWrong)

/-- 'laws.FnExactRepairRank': WHATEVER THE INPUT: true; the input reads as it did. -/
def fnExactRepairRankSpec : ChangeSpec := { name := "fnExactRepairRank", fn := fun _ => fun
  | [d1, d2] => { results := [.lit (.bool true)], args := [d1, d2] }
  | _ => none }
def fnExactRepairRankRow : OpenClaim := { program := "ytioofopbidgpeaa", sum := "741a44b7ad5c24b1aab8f011ce77cfd5696c59dd9a551608ffacc71f9686fb91", func := "loop.example/g01918/laws.FnExactRepairRank", spec := "fnExactRepairRank", inPlace := ["internal/bytealg.abigen_runtime_cmpstring"], unfollowed := true, recurses := true, apart := false }
def FnExactRepairRankSaid : Prop := fnExactRepairRankRow.holds Try.pinned (OpenSpec.ofChange fnExactRepairRankSpec)

/-- ITS FALSE NEIGHBOUR: 'it returns false'. Refute it at one input. -/
def fnExactRepairRankWrong : ChangeSpec := { name := "fnExactRepairRank", fn := fun _ => fun
  | [d1, d2] => { results := [.lit (.bool false)], args := [d1, d2] }
  | _ => none }
def FnExactRepairRankWrongFalsely : Prop := fnExactRepairRankRow.holds Try.pinned (OpenSpec.ofChange fnExactRepairRankWrong)

/-- 'laws.FnExactKeyVariables': WHATEVER THE INPUT: true; the input reads as it did. -/
def fnExactKeyVariablesSpec : ChangeSpec := { name := "fnExactKeyVariables", fn := fun _ => fun
  | [d1, d2] => { results := [.lit (.bool true)], args := [d1, d2] }
  | _ => none }
def fnExactKeyVariablesRow : OpenClaim := { program := "ytioofopbidgpeaa", sum := "741a44b7ad5c24b1aab8f011ce77cfd5696c59dd9a551608ffacc71f9686fb91", func := "loop.example/g01918/laws.FnExactKeyVariables", spec := "fnExactKeyVariables", apart := false }
def FnExactKeyVariablesSaid : Prop := fnExactKeyVariablesRow.holds Try.pinned (OpenSpec.ofChange fnExactKeyVariablesSpec)

/-- ITS FALSE NEIGHBOUR: 'it returns false'. Refute it at one input. -/
def fnExactKeyVariablesWrong : ChangeSpec := { name := "fnExactKeyVariables", fn := fun _ => fun
  | [d1, d2] => { results := [.lit (.bool false)], args := [d1, d2] }
  | _ => none }
def FnExactKeyVariablesWrongFalsely : Prop := fnExactKeyVariablesRow.holds Try.pinned (OpenSpec.ofChange fnExactKeyVariablesWrong)

/-- 'laws.FnExactAtomVariables': WHATEVER THE INPUT: true; the input reads as it did. -/
def fnExactAtomVariablesSpec : ChangeSpec := { name := "fnExactAtomVariables", fn := fun _ => fun
  | [d] => { results := [.lit (.bool true)], args := [d] }
  | _ => none }
def fnExactAtomVariablesRow : OpenClaim := { program := "ytioofopbidgpeaa", sum := "741a44b7ad5c24b1aab8f011ce77cfd5696c59dd9a551608ffacc71f9686fb91", func := "loop.example/g01918/laws.FnExactAtomVariables", spec := "fnExactAtomVariables", apart := false }
def FnExactAtomVariablesSaid : Prop := fnExactAtomVariablesRow.holds Try.pinned (OpenSpec.ofChange fnExactAtomVariablesSpec)

/-- ITS FALSE NEIGHBOUR: 'it returns false'. Refute it at one input. -/
def fnExactAtomVariablesWrong : ChangeSpec := { name := "fnExactAtomVariables", fn := fun _ => fun
  | [d] => { results := [.lit (.bool false)], args := [d] }
  | _ => none }
def FnExactAtomVariablesWrongFalsely : Prop := fnExactAtomVariablesRow.holds Try.pinned (OpenSpec.ofChange fnExactAtomVariablesWrong)

/- THE SECOND FORM. 'bulk': how many values and letters a reading holds, each counted each time it is reached (what is shared counts as often as it is met; a slice's spare places count too). A statement '..UptoSaid' is the law's where the arguments, and the package variables that the reading takes, are together of bulk at most 1048576: NARROWER than '..Said'. Prove '..Said' where nothing that the law and all that it calls make is longer than what came in: it says more and counts as full. Else prove '..UptoSaid'. A law counts once. -/
mutual
def uptoBulk {H : Type} : DataW H → Nat
  | .lit (.string bytes) => bytes.length + 1
  | .lit _ => 1
  | .nil => 1
  | .ptr d => uptoBulk d + 1
  | .slice elems spare => uptoBulkAll elems + uptoBulkAll spare + 1
  | .agg parts => uptoBulkAll parts + 1
  | .iface _ d => uptoBulk d + 1
  | .map entries => uptoBulkEntries entries + 1
  | .held _ => 1
def uptoBulkAll {H : Type} : List (DataW H) → Nat
  | [] => 0
  | d :: r => uptoBulk d + uptoBulkAll r
def uptoBulkEntries {H : Type} : List (Lit × DataW H) → Nat
  | [] => 0
  | x :: r => uptoBulkEntry x + uptoBulkEntries r
def uptoBulkEntry {H : Type} : Lit × DataW H → Nat
  | (.string bytes, d) => bytes.length + uptoBulk d + 1
  | (_, d) => uptoBulk d + 1
 end
def uptoSmall : (H : Type) → List (DataW H) → Bool := fun _ ds => decide (uptoBulkAll ds ≤ 1048576)
def OpenSpec.upto (s : _root_.Go.ChangeSpec) : _root_.Go.OpenSpec := { _root_.Go.OpenSpec.ofChange s with cond := some uptoSmall }

/-- 'laws.FnExactIsPartialRepair', WHERE WHAT IT READS IS OF BULK AT MOST 1048576: true; the input reads as it did. -/
def fnExactIsPartialRepairUptoRow : OpenClaim := { program := "ytioofopbidgpeaa", sum := "741a44b7ad5c24b1aab8f011ce77cfd5696c59dd9a551608ffacc71f9686fb91", func := "loop.example/g01918/laws.FnExactIsPartialRepair", spec := "fnExactIsPartialRepair", inPlace := ["internal/bytealg.abigen_runtime_cmpstring"], unfollowed := true, recurses := true, apart := false, narrowed := true }
def FnExactIsPartialRepairUptoSaid : Prop := fnExactIsPartialRepairUptoRow.holds Try.pinned (OpenSpec.upto fnExactIsPartialRepairSpec)

/-- 'laws.FnExactIsRepair', WHERE WHAT IT READS IS OF BULK AT MOST 1048576: true; the input reads as it did. -/
def fnExactIsRepairUptoRow : OpenClaim := { program := "ytioofopbidgpeaa", sum := "741a44b7ad5c24b1aab8f011ce77cfd5696c59dd9a551608ffacc71f9686fb91", func := "loop.example/g01918/laws.FnExactIsRepair", spec := "fnExactIsRepair", inPlace := ["internal/bytealg.abigen_runtime_cmpstring"], unfollowed := true, recurses := true, apart := false, narrowed := true }
def FnExactIsRepairUptoSaid : Prop := fnExactIsRepairUptoRow.holds Try.pinned (OpenSpec.upto fnExactIsRepairSpec)

/-- 'laws.FnExactRepairRank', WHERE WHAT IT READS IS OF BULK AT MOST 1048576: true; the input reads as it did. -/
def fnExactRepairRankUptoRow : OpenClaim := { program := "ytioofopbidgpeaa", sum := "741a44b7ad5c24b1aab8f011ce77cfd5696c59dd9a551608ffacc71f9686fb91", func := "loop.example/g01918/laws.FnExactRepairRank", spec := "fnExactRepairRank", inPlace := ["internal/bytealg.abigen_runtime_cmpstring"], unfollowed := true, recurses := true, apart := false, narrowed := true }
def FnExactRepairRankUptoSaid : Prop := fnExactRepairRankUptoRow.holds Try.pinned (OpenSpec.upto fnExactRepairRankSpec)

/-- 'laws.FnExactKeyVariables', WHERE WHAT IT READS IS OF BULK AT MOST 1048576: true; the input reads as it did. -/
def fnExactKeyVariablesUptoRow : OpenClaim := { program := "ytioofopbidgpeaa", sum := "741a44b7ad5c24b1aab8f011ce77cfd5696c59dd9a551608ffacc71f9686fb91", func := "loop.example/g01918/laws.FnExactKeyVariables", spec := "fnExactKeyVariables", apart := false, narrowed := true }
def FnExactKeyVariablesUptoSaid : Prop := fnExactKeyVariablesUptoRow.holds Try.pinned (OpenSpec.upto fnExactKeyVariablesSpec)

/-- 'laws.FnExactAtomVariables', WHERE WHAT IT READS IS OF BULK AT MOST 1048576: true; the input reads as it did. -/
def fnExactAtomVariablesUptoRow : OpenClaim := { program := "ytioofopbidgpeaa", sum := "741a44b7ad5c24b1aab8f011ce77cfd5696c59dd9a551608ffacc71f9686fb91", func := "loop.example/g01918/laws.FnExactAtomVariables", spec := "fnExactAtomVariables", apart := false, narrowed := true }
def FnExactAtomVariablesUptoSaid : Prop := fnExactAtomVariablesUptoRow.holds Try.pinned (OpenSpec.upto fnExactAtomVariablesSpec)

end Rows
end Go.Proofs.Ytioofopbidgpeaa
