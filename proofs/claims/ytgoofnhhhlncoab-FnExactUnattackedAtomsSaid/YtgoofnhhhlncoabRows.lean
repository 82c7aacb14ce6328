/-
  No cell of these rows narrows 'for every input' (looked for: loops, veiled, ifaces, maps, wideKeys, modest, calm, conditions, laid).
  DERIVED. THE GIVEN ROWS OF THIS SEAT. 5 by the template 'for every input the law returns true; each argument reads behind the call as it read before'; 0 by the template 'total and deterministic' (their statements: YtgoofnhhhlncoabTotals.lean).
  GIVEN WITH THE SEED: the statements are not yours to turn. If you find one false, say at which input.
  Laid BY PROGRAM, IN A SANDBOX (cutbox-rows.mjs): the forced cells as the released guide's own fill.sh prints them over the translation 26b94bf839ada054… (all of the seat's roots in one cut). By AI agents, Wed Nov 11 2026. No macro, syntax, notation, axiom, sorry.
-/
import Derived.Test.YtgoofnhhhlncoabChecked
import GoSem.Claim
import GoSem.ClaimJoined
import GoSem.ClaimMapViews
import Derived.JoinedTies
import Derived.KernelRfl
namespace Go.Proofs.Ytgoofnhhhlncoab
/- THE CELL 'sum', in the pinned program and in every row, IS THE sha256 OF THE DUMP (.gsa) THAT YtgoofnhhhlncoabProg.lean LOADS. Nothing in Lean hashes anything: it is a label: what it is worth is what the hold of that sum in a sandbox is worth. -/
noncomputable def Try.pinned : Pinned := { name := "ytgoofnhhhlncoab", sum := "26b94bf839ada05472c84ee19a8da869f273d4a13a90ca4beb8f8234f4b5de39", checked := Try.checked }
namespace Rows
def none {H : Type} : Left H := { results := [], args := [] }

/-- 'laws.FnExactHasAttack': WHATEVER THE INPUT: true; the input reads as it did. -/
def fnExactHasAttackSpec : ChangeSpec := { name := "fnExactHasAttack", fn := fun _ => fun
  | [d1, d2, d3, d4] => { results := [.lit (.bool true)], args := [d1, d2, d3, d4] }
  | _ => none }
def fnExactHasAttackRow : OpenClaim := { program := "ytgoofnhhhlncoab", sum := "26b94bf839ada05472c84ee19a8da869f273d4a13a90ca4beb8f8234f4b5de39", func := "loop.example/g01918/laws.FnExactHasAttack", spec := "fnExactHasAttack", inPlace := ["internal/bytealg.abigen_runtime_cmpstring"], unfollowed := true, recurses := true, apart := false }
def FnExactHasAttackSaid : Prop := fnExactHasAttackRow.holds Try.pinned (OpenSpec.ofChange fnExactHasAttackSpec)

/-- ITS FALSE NEIGHBOUR: 'it returns false'. Refute it at one input. -/
def fnExactHasAttackWrong : ChangeSpec := { name := "fnExactHasAttack", fn := fun _ => fun
  | [d1, d2, d3, d4] => { results := [.lit (.bool false)], args := [d1, d2, d3, d4] }
  | _ => none }
def FnExactHasAttackWrongFalsely : Prop := fnExactHasAttackRow.holds Try.pinned (OpenSpec.ofChange fnExactHasAttackWrong)

/-- 'laws.FnExactIsWeakAttack': WHATEVER THE INPUT: true; the input reads as it did. -/
def fnExactIsWeakAttackSpec : ChangeSpec := { name := "fnExactIsWeakAttack", fn := fun _ => fun
  | [d1, d2, d3, d4] => { results := [.lit (.bool true)], args := [d1, d2, d3, d4] }
  | _ => none }
def fnExactIsWeakAttackRow : OpenClaim := { program := "ytgoofnhhhlncoab", sum := "26b94bf839ada05472c84ee19a8da869f273d4a13a90ca4beb8f8234f4b5de39", func := "loop.example/g01918/laws.FnExactIsWeakAttack", spec := "fnExactIsWeakAttack", inPlace := ["internal/bytealg.abigen_runtime_cmpstring"], unfollowed := true, recurses := true, apart := false }
def FnExactIsWeakAttackSaid : Prop := fnExactIsWeakAttackRow.holds Try.pinned (OpenSpec.ofChange fnExactIsWeakAttackSpec)

/-- ITS FALSE NEIGHBOUR: 'it returns false'. Refute it at one input. -/
def fnExactIsWeakAttackWrong : ChangeSpec := { name := "fnExactIsWeakAttack", fn := fun _ => fun
  | [d1, d2, d3, d4] => { results := [.lit (.bool false)], args := [d1, d2, d3, d4] }
  | _ => none }
def FnExactIsWeakAttackWrongFalsely : Prop := fnExactIsWeakAttackRow.holds Try.pinned (OpenSpec.ofChange fnExactIsWeakAttackWrong)

/-- 'laws.FnExactUnattackedAtoms': WHATEVER THE INPUT: true; the input reads as it did. -/
def fnExactUnattackedAtomsSpec : ChangeSpec := { name := "fnExactUnattackedAtoms", fn := fun _ => fun
  | [d1, d2] => { results := [.lit (.bool true)], args := [d1, d2] }
  | _ => none }
def fnExactUnattackedAtomsRow : OpenClaim := { program := "ytgoofnhhhlncoab", sum := "26b94bf839ada05472c84ee19a8da869f273d4a13a90ca4beb8f8234f4b5de39", func := "loop.example/g01918/laws.FnExactUnattackedAtoms", spec := "fnExactUnattackedAtoms", inPlace := ["internal/bytealg.abigen_runtime_cmpstring"], unfollowed := true, recurses := true, apart := false }
def FnExactUnattackedAtomsSaid : Prop := fnExactUnattackedAtomsRow.holds Try.pinned (OpenSpec.ofChange fnExactUnattackedAtomsSpec)

/-- ITS FALSE NEIGHBOUR: 'it returns false'. Refute it at one input. -/
def fnExactUnattackedAtomsWrong : ChangeSpec := { name := "fnExactUnattackedAtoms", fn := fun _ => fun
  | [d1, d2] => { results := [.lit (.bool false)], args := [d1, d2] }
  | _ => none }
def FnExactUnattackedAtomsWrongFalsely : Prop := fnExactUnattackedAtomsRow.holds Try.pinned (OpenSpec.ofChange fnExactUnattackedAtomsWrong)

/-- 'laws.FnExactFindTwoCycle': WHATEVER THE INPUT: true; the input reads as it did. -/
def fnExactFindTwoCycleSpec : ChangeSpec := { name := "fnExactFindTwoCycle", fn := fun _ => fun
  | [d1, d2] => { results := [.lit (.bool true)], args := [d1, d2] }
  | _ => none }
def fnExactFindTwoCycleRow : OpenClaim := { program := "ytgoofnhhhlncoab", sum := "26b94bf839ada05472c84ee19a8da869f273d4a13a90ca4beb8f8234f4b5de39", func := "loop.example/g01918/laws.FnExactFindTwoCycle", spec := "fnExactFindTwoCycle", inPlace := ["internal/bytealg.abigen_runtime_cmpstring"], unfollowed := true, recurses := true, apart := false }
def FnExactFindTwoCycleSaid : Prop := fnExactFindTwoCycleRow.holds Try.pinned (OpenSpec.ofChange fnExactFindTwoCycleSpec)

/-- ITS FALSE NEIGHBOUR: 'it returns false'. Refute it at one input. -/
def fnExactFindTwoCycleWrong : ChangeSpec := { name := "fnExactFindTwoCycle", fn := fun _ => fun
  | [d1, d2] => { results := [.lit (.bool false)], args := [d1, d2] }
  | _ => none }
def FnExactFindTwoCycleWrongFalsely : Prop := fnExactFindTwoCycleRow.holds Try.pinned (OpenSpec.ofChange fnExactFindTwoCycleWrong)

/-- 'laws.FnExactPartialRepairsUpTo': WHATEVER THE INPUT: true; the input reads as it did. -/
def fnExactPartialRepairsUpToSpec : ChangeSpec := { name := "fnExactPartialRepairsUpTo", fn := fun _ => fun
  | [d1, d2] => { results := [.lit (.bool true)], args := [d1, d2] }
  | _ => none }
def fnExactPartialRepairsUpToRow : OpenClaim := { program := "ytgoofnhhhlncoab", sum := "26b94bf839ada05472c84ee19a8da869f273d4a13a90ca4beb8f8234f4b5de39", func := "loop.example/g01918/laws.FnExactPartialRepairsUpTo", spec := "fnExactPartialRepairsUpTo", inPlace := ["internal/bytealg.abigen_runtime_cmpstring"], unfollowed := true, recurses := true, apart := false }
def FnExactPartialRepairsUpToSaid : Prop := fnExactPartialRepairsUpToRow.holds Try.pinned (OpenSpec.ofChange fnExactPartialRepairsUpToSpec)

/-- ITS FALSE NEIGHBOUR: 'it returns false'. Refute it at one input. -/
def fnExactPartialRepairsUpToWrong : ChangeSpec := { name := "fnExactPartialRepairsUpTo", fn := fun _ => fun
  | [d1, d2] => { results := [.lit (.bool false)], args := [d1, d2] }
  | _ => none }
def FnExactPartialRepairsUpToWrongFalsely : Prop := fnExactPartialRepairsUpToRow.holds Try.pinned (OpenSpec.ofChange fnExactPartialRepairsUpToWrong)

/- THE SECOND FORM. 'bulk': how many values and letters a reading holds, each counted each time it is reached (what is shared counts as often as it is met; a slice's spare places count too). A statement '..UptoSaid' is the law's where the arguments, and the package variables that the reading takes, are together of bulk at most 1048576: NARROWER than '..Said'. Prove '..Said' where nothing that the law and all that it calls make is longer than what came in: it says more and counts as full. Else prove '..UptoSaid'. A law counts once. -/
mutual
def uptoBulk {H : Type} : DataW H → Nat
  | .lit (.string bytes) => bytes.length + 1
  | .lit _ => 1
  | .nil => 1
  | .ptr d => uptoBulk d + 1
  | .slice elems spare => uptoBulkAll elems + uptoBulkAll spare + 1
  | .agg parts => uptoBulkAll parts + 1
  | .iface _ d => uptoBulk d + 1
  | .map entries => uptoBulkEntries entries + 1
  | .held _ => 1
def uptoBulkAll {H : Type} : List (DataW H) → Nat
  | [] => 0
  | d :: r => uptoBulk d + uptoBulkAll r
def uptoBulkEntries {H : Type} : List (Lit × DataW H) → Nat
  | [] => 0
  | x :: r => uptoBulkEntry x + uptoBulkEntries r
def uptoBulkEntry {H : Type} : Lit × DataW H → Nat
  | (.string bytes, d) => bytes.length + uptoBulk d + 1
  | (_, d) => uptoBulk d + 1
 end
def uptoSmall : (H : Type) → List (DataW H) → Bool := fun _ ds => decide (uptoBulkAll ds ≤ 1048576)
def OpenSpec.upto (s : _root_.Go.ChangeSpec) : _root_.Go.OpenSpec := { _root_.Go.OpenSpec.ofChange s with cond := some uptoSmall }

/-- 'laws.FnExactHasAttack', WHERE WHAT IT READS IS OF BULK AT MOST 1048576: true; the input reads as it did. -/
def fnExactHasAttackUptoRow : OpenClaim := { program := "ytgoofnhhhlncoab", sum := "26b94bf839ada05472c84ee19a8da869f273d4a13a90ca4beb8f8234f4b5de39", func := "loop.example/g01918/laws.FnExactHasAttack", spec := "fnExactHasAttack", inPlace := ["internal/bytealg.abigen_runtime_cmpstring"], unfollowed := true, recurses := true, apart := false, narrowed := true }
def FnExactHasAttackUptoSaid : Prop := fnExactHasAttackUptoRow.holds Try.pinned (OpenSpec.upto fnExactHasAttackSpec)

/-- 'laws.FnExactIsWeakAttack', WHERE WHAT IT READS IS OF BULK AT MOST 1048576: true; the input reads as it did. -/
def fnExactIsWeakAttackUptoRow : OpenClaim := { program := "ytgoofnhhhlncoab", sum := "26b94bf839ada05472c84ee19a8da869f273d4a13a90ca4beb8f8234f4b5de39", func := "loop.example/g01918/laws.FnExactIsWeakAttack", spec := "fnExactIsWeakAttack", inPlace := ["internal/bytealg.abigen_runtime_cmpstring"], unfollowed := true, recurses := true, apart := false, narrowed := true }
def FnExactIsWeakAttackUptoSaid : Prop := fnExactIsWeakAttackUptoRow.holds Try.pinned (OpenSpec.upto fnExactIsWeakAttackSpec)

/-- 'laws.FnExactUnattackedAtoms', WHERE WHAT IT READS IS OF BULK AT MOST 1048576: true; the input reads as it did. -/
def fnExactUnattackedAtomsUptoRow : OpenClaim := { program := "ytgoofnhhhlncoab", sum := "26b94bf839ada05472c84ee19a8da869f273d4a13a90ca4beb8f8234f4b5de39", func := "loop.example/g01918/laws.FnExactUnattackedAtoms", spec := "fnExactUnattackedAtoms", inPlace := ["internal/bytealg.abigen_runtime_cmpstring"], unfollowed := true, recurses := true, apart := false, narrowed := true }
def FnExactUnattackedAtomsUptoSaid : Prop := fnExactUnattackedAtomsUptoRow.holds Try.pinned (OpenSpec.upto fnExactUnattackedAtomsSpec)

/-- 'laws.FnExactFindTwoCycle', WHERE WHAT IT READS IS OF BULK AT MOST 1048576: true; the input reads as it did. -/
def fnExactFindTwoCycleUptoRow : OpenClaim := { program := "ytgoofnhhhlncoab", sum := "26b94bf839ada05472c84ee19a8da869f273d4a13a90ca4beb8f8234f4b5de39", func := "loop.example/g01918/laws.FnExactFindTwoCycle", spec := "fnExactFindTwoCycle", inPlace := ["internal/bytealg.abigen_runtime_cmpstring"], unfollowed := true, recurses := true, apart := false, narrowed := true }
def FnExactFindTwoCycleUptoSaid : Prop := fnExactFindTwoCycleUptoRow.holds Try.pinned (OpenSpec.upto fnExactFindTwoCycleSpec)

/-- 'laws.FnExactPartialRepairsUpTo', WHERE WHAT IT READS IS OF BULK AT MOST 1048576: true; the input reads as it did. -/
def fnExactPartialRepairsUpToUptoRow : OpenClaim := { program := "ytgoofnhhhlncoab", sum := "26b94bf839ada05472c84ee19a8da869f273d4a13a90ca4beb8f8234f4b5de39", func := "loop.example/g01918/laws.FnExactPartialRepairsUpTo", spec := "fnExactPartialRepairsUpTo", inPlace := ["internal/bytealg.abigen_runtime_cmpstring"], unfollowed := true, recurses := true, apart := false, narrowed := true }
def FnExactPartialRepairsUpToUptoSaid : Prop := fnExactPartialRepairsUpToUptoRow.holds Try.pinned (OpenSpec.upto fnExactPartialRepairsUpToSpec)

end Rows
end Go.Proofs.Ytgoofnhhhlncoab
