/-
  NARROWER THAN 'FOR EVERY INPUT', by the rows' own cells (each row's printed sentence says how): FnExactAttributeClosure: laid · FnExactKeyClosure: laid · FnExactDetermines: laid · FnExactAttackedVariables: laid · FnExactHasAttackPath: laid · FnExactIsCyclic: laid · FnExactClassify: laid.
  DERIVED. THE GIVEN ROWS OF THIS SEAT. 7 by the template 'for every input the law returns true; each argument reads behind the call as it read before'; 0 by the template 'total and deterministic' (their statements: YtgoofnhhhlncoabDoorTotals.lean).
  GIVEN WITH THE SEED: the statements are not yours to turn. If you find one false, say at which input.
  Laid BY PROGRAM, IN A SANDBOX (cutbox-rows.mjs): the forced cells as the released guide's own fill.sh prints them over the translation ff232d7110587f28… (all of the seat's roots in one cut). By AI agents, Wed Nov 11 2026. No macro, syntax, notation, axiom, sorry.
-/
import Derived.Test.YtgoofnhhhlncoabDoorChecked
import GoSem.Claim
import GoSem.ClaimJoined
import GoSem.ClaimMapViews
import Derived.JoinedTies
import Derived.KernelRfl
namespace Go.Proofs.YtgoofnhhhlncoabDoor
/- THE CELL 'sum', in the pinned program and in every row, IS THE sha256 OF THE DUMP (.gsa) THAT YtgoofnhhhlncoabDoorProg.lean LOADS. Nothing in Lean hashes anything: it is a label: what it is worth is what the hold of that sum in a sandbox is worth. -/
noncomputable def Tryd.pinned : Pinned := { name := "ytgoofnhhhlncoabdoor", sum := "ff232d7110587f2874dd5dcd841b2984f509a0470b283e82d2809ea6fb155804", checked := Tryd.checked }
namespace Rows
def none {H : Type} : Left H := { results := [], args := [] }

/- WHAT THE LISTED PACKAGE-LEVEL VARIABLES READ AS WHEN THE CALL BEGINS. Each datum BY PROGRAM (the guide's laid-datum.mjs) off the statement by which the dump's own 'gosem.cut.vars' lays the variable. In a bare row this is a premise. The card (YtgoofnhhhlncoabDoorCards.lean) ties it to the program's text. -/
def laid_math_bits_deBruijn32tab {H : Type} : DataW H := .agg [.lit (.int .u8 0), .lit (.int .u8 1), .lit (.int .u8 28), .lit (.int .u8 2), .lit (.int .u8 29), .lit (.int .u8 14), .lit (.int .u8 24), .lit (.int .u8 3), .lit (.int .u8 30), .lit (.int .u8 22), .lit (.int .u8 20), .lit (.int .u8 15), .lit (.int .u8 25), .lit (.int .u8 17), .lit (.int .u8 4), .lit (.int .u8 8), .lit (.int .u8 31), .lit (.int .u8 27), .lit (.int .u8 13), .lit (.int .u8 23), .lit (.int .u8 21), .lit (.int .u8 19), .lit (.int .u8 16), .lit (.int .u8 7), .lit (.int .u8 26), .lit (.int .u8 12), .lit (.int .u8 18), .lit (.int .u8 6), .lit (.int .u8 11), .lit (.int .u8 5), .lit (.int .u8 10), .lit (.int .u8 9)]
def laid_math_bits_deBruijn64tab {H : Type} : DataW H := .agg [.lit (.int .u8 0), .lit (.int .u8 1), .lit (.int .u8 56), .lit (.int .u8 2), .lit (.int .u8 57), .lit (.int .u8 49), .lit (.int .u8 28), .lit (.int .u8 3), .lit (.int .u8 61), .lit (.int .u8 58), .lit (.int .u8 42), .lit (.int .u8 50), .lit (.int .u8 38), .lit (.int .u8 29), .lit (.int .u8 17), .lit (.int .u8 4), .lit (.int .u8 62), .lit (.int .u8 47), .lit (.int .u8 59), .lit (.int .u8 36), .lit (.int .u8 45), .lit (.int .u8 43), .lit (.int .u8 51), .lit (.int .u8 22), .lit (.int .u8 53), .lit (.int .u8 39), .lit (.int .u8 33), .lit (.int .u8 30), .lit (.int .u8 24), .lit (.int .u8 18), .lit (.int .u8 12), .lit (.int .u8 5), .lit (.int .u8 63), .lit (.int .u8 55), .lit (.int .u8 48), .lit (.int .u8 27), .lit (.int .u8 60), .lit (.int .u8 41), .lit (.int .u8 37), .lit (.int .u8 16), .lit (.int .u8 46), .lit (.int .u8 35), .lit (.int .u8 44), .lit (.int .u8 21), .lit (.int .u8 52), .lit (.int .u8 32), .lit (.int .u8 23), .lit (.int .u8 11), .lit (.int .u8 54), .lit (.int .u8 26), .lit (.int .u8 40), .lit (.int .u8 15), .lit (.int .u8 34), .lit (.int .u8 20), .lit (.int .u8 31), .lit (.int .u8 10), .lit (.int .u8 25), .lit (.int .u8 14), .lit (.int .u8 19), .lit (.int .u8 9), .lit (.int .u8 13), .lit (.int .u8 8), .lit (.int .u8 7), .lit (.int .u8 6)]

/-- 'laws.FnExactAttributeClosure': WHATEVER THE INPUT: true; the input reads as it did. -/
def fnExactAttributeClosureSpec : ChangeSpec := { name := "fnExactAttributeClosure", fn := fun _ => fun
  | [d1, d2, d3, d4] => { results := [.lit (.bool true)], args := [d1, d2, d3, d4] }
  | _ => none }
def fnExactAttributeClosureRow : OpenClaim := { program := "ytgoofnhhhlncoabdoor", sum := "ff232d7110587f2874dd5dcd841b2984f509a0470b283e82d2809ea6fb155804", func := "loop.example/g01918/laws.FnExactAttributeClosure", spec := "fnExactAttributeClosure", inPlace := ["internal/bytealg.abigen_runtime_cmpstring"], unfollowed := true, recurses := true, named := ["math/bits.deBruijn32tab", "math/bits.deBruijn64tab"], apart := false, laid := [("math/bits.deBruijn32tab", laid_math_bits_deBruijn32tab), ("math/bits.deBruijn64tab", laid_math_bits_deBruijn64tab)] }
def FnExactAttributeClosureSaid : Prop := fnExactAttributeClosureRow.holds Tryd.pinned (OpenSpec.ofChange fnExactAttributeClosureSpec)

/-- ITS FALSE NEIGHBOUR: 'it returns false'. Refute it at one input. -/
def fnExactAttributeClosureWrong : ChangeSpec := { name := "fnExactAttributeClosure", fn := fun _ => fun
  | [d1, d2, d3, d4] => { results := [.lit (.bool false)], args := [d1, d2, d3, d4] }
  | _ => none }
def FnExactAttributeClosureWrongFalsely : Prop := fnExactAttributeClosureRow.holds Tryd.pinned (OpenSpec.ofChange fnExactAttributeClosureWrong)

/-- 'laws.FnExactKeyClosure': WHATEVER THE INPUT: true; the input reads as it did. -/
def fnExactKeyClosureSpec : ChangeSpec := { name := "fnExactKeyClosure", fn := fun _ => fun
  | [d1, d2, d3] => { results := [.lit (.bool true)], args := [d1, d2, d3] }
  | _ => none }
def fnExactKeyClosureRow : OpenClaim := { program := "ytgoofnhhhlncoabdoor", sum := "ff232d7110587f2874dd5dcd841b2984f509a0470b283e82d2809ea6fb155804", func := "loop.example/g01918/laws.FnExactKeyClosure", spec := "fnExactKeyClosure", inPlace := ["internal/bytealg.abigen_runtime_cmpstring"], unfollowed := true, recurses := true, named := ["math/bits.deBruijn32tab", "math/bits.deBruijn64tab"], apart := false, laid := [("math/bits.deBruijn32tab", laid_math_bits_deBruijn32tab), ("math/bits.deBruijn64tab", laid_math_bits_deBruijn64tab)] }
def FnExactKeyClosureSaid : Prop := fnExactKeyClosureRow.holds Tryd.pinned (OpenSpec.ofChange fnExactKeyClosureSpec)

/-- ITS FALSE NEIGHBOUR: 'it returns false'. Refute it at one input. -/
def fnExactKeyClosureWrong : ChangeSpec := { name := "fnExactKeyClosure", fn := fun _ => fun
  | [d1, d2, d3] => { results := [.lit (.bool false)], args := [d1, d2, d3] }
  | _ => none }
def FnExactKeyClosureWrongFalsely : Prop := fnExactKeyClosureRow.holds Tryd.pinned (OpenSpec.ofChange fnExactKeyClosureWrong)

/-- 'laws.FnExactDetermines': WHATEVER THE INPUT: true; the input reads as it did. -/
def fnExactDeterminesSpec : ChangeSpec := { name := "fnExactDetermines", fn := fun _ => fun
  | [d1, d2, d3, d4] => { results := [.lit (.bool true)], args := [d1, d2, d3, d4] }
  | _ => none }
def fnExactDeterminesRow : OpenClaim := { program := "ytgoofnhhhlncoabdoor", sum := "ff232d7110587f2874dd5dcd841b2984f509a0470b283e82d2809ea6fb155804", func := "loop.example/g01918/laws.FnExactDetermines", spec := "fnExactDetermines", inPlace := ["internal/bytealg.abigen_runtime_cmpstring"], unfollowed := true, recurses := true, named := ["math/bits.deBruijn32tab", "math/bits.deBruijn64tab"], apart := false, laid := [("math/bits.deBruijn32tab", laid_math_bits_deBruijn32tab), ("math/bits.deBruijn64tab", laid_math_bits_deBruijn64tab)] }
def FnExactDeterminesSaid : Prop := fnExactDeterminesRow.holds Tryd.pinned (OpenSpec.ofChange fnExactDeterminesSpec)

/-- ITS FALSE NEIGHBOUR: 'it returns false'. Refute it at one input. -/
def fnExactDeterminesWrong : ChangeSpec := { name := "fnExactDetermines", fn := fun _ => fun
  | [d1, d2, d3, d4] => { results := [.lit (.bool false)], args := [d1, d2, d3, d4] }
  | _ => none }
def FnExactDeterminesWrongFalsely : Prop := fnExactDeterminesRow.holds Tryd.pinned (OpenSpec.ofChange fnExactDeterminesWrong)

/-- 'laws.FnExactAttackedVariables': WHATEVER THE INPUT: true; the input reads as it did. -/
def fnExactAttackedVariablesSpec : ChangeSpec := { name := "fnExactAttackedVariables", fn := fun _ => fun
  | [d1, d2, d3] => { results := [.lit (.bool true)], args := [d1, d2, d3] }
  | _ => none }
def fnExactAttackedVariablesRow : OpenClaim := { program := "ytgoofnhhhlncoabdoor", sum := "ff232d7110587f2874dd5dcd841b2984f509a0470b283e82d2809ea6fb155804", func := "loop.example/g01918/laws.FnExactAttackedVariables", spec := "fnExactAttackedVariables", inPlace := ["internal/bytealg.abigen_runtime_cmpstring"], unfollowed := true, recurses := true, named := ["math/bits.deBruijn32tab", "math/bits.deBruijn64tab"], apart := false, laid := [("math/bits.deBruijn32tab", laid_math_bits_deBruijn32tab), ("math/bits.deBruijn64tab", laid_math_bits_deBruijn64tab)] }
def FnExactAttackedVariablesSaid : Prop := fnExactAttackedVariablesRow.holds Tryd.pinned (OpenSpec.ofChange fnExactAttackedVariablesSpec)

/-- ITS FALSE NEIGHBOUR: 'it returns false'. Refute it at one input. -/
def fnExactAttackedVariablesWrong : ChangeSpec := { name := "fnExactAttackedVariables", fn := fun _ => fun
  | [d1, d2, d3] => { results := [.lit (.bool false)], args := [d1, d2, d3] }
  | _ => none }
def FnExactAttackedVariablesWrongFalsely : Prop := fnExactAttackedVariablesRow.holds Tryd.pinned (OpenSpec.ofChange fnExactAttackedVariablesWrong)

/-- 'laws.FnExactHasAttackPath': WHATEVER THE INPUT: true; the input reads as it did. -/
def fnExactHasAttackPathSpec : ChangeSpec := { name := "fnExactHasAttackPath", fn := fun _ => fun
  | [d1, d2, d3, d4] => { results := [.lit (.bool true)], args := [d1, d2, d3, d4] }
  | _ => none }
def fnExactHasAttackPathRow : OpenClaim := { program := "ytgoofnhhhlncoabdoor", sum := "ff232d7110587f2874dd5dcd841b2984f509a0470b283e82d2809ea6fb155804", func := "loop.example/g01918/laws.FnExactHasAttackPath", spec := "fnExactHasAttackPath", inPlace := ["internal/bytealg.abigen_runtime_cmpstring"], unfollowed := true, recurses := true, named := ["math/bits.deBruijn32tab", "math/bits.deBruijn64tab"], apart := false, laid := [("math/bits.deBruijn32tab", laid_math_bits_deBruijn32tab), ("math/bits.deBruijn64tab", laid_math_bits_deBruijn64tab)] }
def FnExactHasAttackPathSaid : Prop := fnExactHasAttackPathRow.holds Tryd.pinned (OpenSpec.ofChange fnExactHasAttackPathSpec)

/-- ITS FALSE NEIGHBOUR: 'it returns false'. Refute it at one input. -/
def fnExactHasAttackPathWrong : ChangeSpec := { name := "fnExactHasAttackPath", fn := fun _ => fun
  | [d1, d2, d3, d4] => { results := [.lit (.bool false)], args := [d1, d2, d3, d4] }
  | _ => none }
def FnExactHasAttackPathWrongFalsely : Prop := fnExactHasAttackPathRow.holds Tryd.pinned (OpenSpec.ofChange fnExactHasAttackPathWrong)

/-- 'laws.FnExactIsCyclic': WHATEVER THE INPUT: true; the input reads as it did. -/
def fnExactIsCyclicSpec : ChangeSpec := { name := "fnExactIsCyclic", fn := fun _ => fun
  | [d1, d2] => { results := [.lit (.bool true)], args := [d1, d2] }
  | _ => none }
def fnExactIsCyclicRow : OpenClaim := { program := "ytgoofnhhhlncoabdoor", sum := "ff232d7110587f2874dd5dcd841b2984f509a0470b283e82d2809ea6fb155804", func := "loop.example/g01918/laws.FnExactIsCyclic", spec := "fnExactIsCyclic", inPlace := ["internal/bytealg.abigen_runtime_cmpstring"], unfollowed := true, recurses := true, named := ["math/bits.deBruijn32tab", "math/bits.deBruijn64tab"], apart := false, laid := [("math/bits.deBruijn32tab", laid_math_bits_deBruijn32tab), ("math/bits.deBruijn64tab", laid_math_bits_deBruijn64tab)] }
def FnExactIsCyclicSaid : Prop := fnExactIsCyclicRow.holds Tryd.pinned (OpenSpec.ofChange fnExactIsCyclicSpec)

/-- ITS FALSE NEIGHBOUR: 'it returns false'. Refute it at one input. -/
def fnExactIsCyclicWrong : ChangeSpec := { name := "fnExactIsCyclic", fn := fun _ => fun
  | [d1, d2] => { results := [.lit (.bool false)], args := [d1, d2] }
  | _ => none }
def FnExactIsCyclicWrongFalsely : Prop := fnExactIsCyclicRow.holds Tryd.pinned (OpenSpec.ofChange fnExactIsCyclicWrong)

/-- 'laws.FnExactClassify': WHATEVER THE INPUT: true; the input reads as it did. -/
def fnExactClassifySpec : ChangeSpec := { name := "fnExactClassify", fn := fun _ => fun
  | [d1, d2] => { results := [.lit (.bool true)], args := [d1, d2] }
  | _ => none }
def fnExactClassifyRow : OpenClaim := { program := "ytgoofnhhhlncoabdoor", sum := "ff232d7110587f2874dd5dcd841b2984f509a0470b283e82d2809ea6fb155804", func := "loop.example/g01918/laws.FnExactClassify", spec := "fnExactClassify", inPlace := ["internal/bytealg.abigen_runtime_cmpstring"], unfollowed := true, recurses := true, named := ["math/bits.deBruijn32tab", "math/bits.deBruijn64tab"], apart := false, laid := [("math/bits.deBruijn32tab", laid_math_bits_deBruijn32tab), ("math/bits.deBruijn64tab", laid_math_bits_deBruijn64tab)] }
def FnExactClassifySaid : Prop := fnExactClassifyRow.holds Tryd.pinned (OpenSpec.ofChange fnExactClassifySpec)

/-- ITS FALSE NEIGHBOUR: 'it returns false'. Refute it at one input. -/
def fnExactClassifyWrong : ChangeSpec := { name := "fnExactClassify", fn := fun _ => fun
  | [d1, d2] => { results := [.lit (.bool false)], args := [d1, d2] }
  | _ => none }
def FnExactClassifyWrongFalsely : Prop := fnExactClassifyRow.holds Tryd.pinned (OpenSpec.ofChange fnExactClassifyWrong)

/- THE SECOND FORM. 'bulk': how many values and letters a reading holds, each counted each time it is reached (what is shared counts as often as it is met; a slice's spare places count too). A statement '..UptoSaid' is the law's where the arguments, and the package variables that the reading takes, are together of bulk at most 1048576: NARROWER than '..Said'. Prove '..Said' where nothing that the law and all that it calls make is longer than what came in: it says more and counts as full. Else prove '..UptoSaid'. A law counts once. -/
mutual
def uptoBulk {H : Type} : DataW H → Nat
  | .lit (.string bytes) => bytes.length + 1
  | .lit _ => 1
  | .nil => 1
  | .ptr d => uptoBulk d + 1
  | .slice elems spare => uptoBulkAll elems + uptoBulkAll spare + 1
  | .agg parts => uptoBulkAll parts + 1
  | .iface _ d => uptoBulk d + 1
  | .map entries => uptoBulkEntries entries + 1
  | .held _ => 1
def uptoBulkAll {H : Type} : List (DataW H) → Nat
  | [] => 0
  | d :: r => uptoBulk d + uptoBulkAll r
def uptoBulkEntries {H : Type} : List (Lit × DataW H) → Nat
  | [] => 0
  | x :: r => uptoBulkEntry x + uptoBulkEntries r
def uptoBulkEntry {H : Type} : Lit × DataW H → Nat
  | (.string bytes, d) => bytes.length + uptoBulk d + 1
  | (_, d) => uptoBulk d + 1
 end
def uptoSmall : (H : Type) → List (DataW H) → Bool := fun _ ds => decide (uptoBulkAll ds ≤ 1048576)
def OpenSpec.upto (s : _root_.Go.ChangeSpec) : _root_.Go.OpenSpec := { _root_.Go.OpenSpec.ofChange s with cond := some uptoSmall }

/-- 'laws.FnExactAttributeClosure', WHERE WHAT IT READS IS OF BULK AT MOST 1048576: true; the input reads as it did. -/
def fnExactAttributeClosureUptoRow : OpenClaim := { program := "ytgoofnhhhlncoabdoor", sum := "ff232d7110587f2874dd5dcd841b2984f509a0470b283e82d2809ea6fb155804", func := "loop.example/g01918/laws.FnExactAttributeClosure", spec := "fnExactAttributeClosure", inPlace := ["internal/bytealg.abigen_runtime_cmpstring"], unfollowed := true, recurses := true, named := ["math/bits.deBruijn32tab", "math/bits.deBruijn64tab"], apart := false, laid := [("math/bits.deBruijn32tab", laid_math_bits_deBruijn32tab), ("math/bits.deBruijn64tab", laid_math_bits_deBruijn64tab)], narrowed := true }
def FnExactAttributeClosureUptoSaid : Prop := fnExactAttributeClosureUptoRow.holds Tryd.pinned (OpenSpec.upto fnExactAttributeClosureSpec)

/-- 'laws.FnExactKeyClosure', WHERE WHAT IT READS IS OF BULK AT MOST 1048576: true; the input reads as it did. -/
def fnExactKeyClosureUptoRow : OpenClaim := { program := "ytgoofnhhhlncoabdoor", sum := "ff232d7110587f2874dd5dcd841b2984f509a0470b283e82d2809ea6fb155804", func := "loop.example/g01918/laws.FnExactKeyClosure", spec := "fnExactKeyClosure", inPlace := ["internal/bytealg.abigen_runtime_cmpstring"], unfollowed := true, recurses := true, named := ["math/bits.deBruijn32tab", "math/bits.deBruijn64tab"], apart := false, laid := [("math/bits.deBruijn32tab", laid_math_bits_deBruijn32tab), ("math/bits.deBruijn64tab", laid_math_bits_deBruijn64tab)], narrowed := true }
def FnExactKeyClosureUptoSaid : Prop := fnExactKeyClosureUptoRow.holds Tryd.pinned (OpenSpec.upto fnExactKeyClosureSpec)

/-- 'laws.FnExactDetermines', WHERE WHAT IT READS IS OF BULK AT MOST 1048576: true; the input reads as it did. -/
def fnExactDeterminesUptoRow : OpenClaim := { program := "ytgoofnhhhlncoabdoor", sum := "ff232d7110587f2874dd5dcd841b2984f509a0470b283e82d2809ea6fb155804", func := "loop.example/g01918/laws.FnExactDetermines", spec := "fnExactDetermines", inPlace := ["internal/bytealg.abigen_runtime_cmpstring"], unfollowed := true, recurses := true, named := ["math/bits.deBruijn32tab", "math/bits.deBruijn64tab"], apart := false, laid := [("math/bits.deBruijn32tab", laid_math_bits_deBruijn32tab), ("math/bits.deBruijn64tab", laid_math_bits_deBruijn64tab)], narrowed := true }
def FnExactDeterminesUptoSaid : Prop := fnExactDeterminesUptoRow.holds Tryd.pinned (OpenSpec.upto fnExactDeterminesSpec)

/-- 'laws.FnExactAttackedVariables', WHERE WHAT IT READS IS OF BULK AT MOST 1048576: true; the input reads as it did. -/
def fnExactAttackedVariablesUptoRow : OpenClaim := { program := "ytgoofnhhhlncoabdoor", sum := "ff232d7110587f2874dd5dcd841b2984f509a0470b283e82d2809ea6fb155804", func := "loop.example/g01918/laws.FnExactAttackedVariables", spec := "fnExactAttackedVariables", inPlace := ["internal/bytealg.abigen_runtime_cmpstring"], unfollowed := true, recurses := true, named := ["math/bits.deBruijn32tab", "math/bits.deBruijn64tab"], apart := false, laid := [("math/bits.deBruijn32tab", laid_math_bits_deBruijn32tab), ("math/bits.deBruijn64tab", laid_math_bits_deBruijn64tab)], narrowed := true }
def FnExactAttackedVariablesUptoSaid : Prop := fnExactAttackedVariablesUptoRow.holds Tryd.pinned (OpenSpec.upto fnExactAttackedVariablesSpec)

/-- 'laws.FnExactHasAttackPath', WHERE WHAT IT READS IS OF BULK AT MOST 1048576: true; the input reads as it did. -/
def fnExactHasAttackPathUptoRow : OpenClaim := { program := "ytgoofnhhhlncoabdoor", sum := "ff232d7110587f2874dd5dcd841b2984f509a0470b283e82d2809ea6fb155804", func := "loop.example/g01918/laws.FnExactHasAttackPath", spec := "fnExactHasAttackPath", inPlace := ["internal/bytealg.abigen_runtime_cmpstring"], unfollowed := true, recurses := true, named := ["math/bits.deBruijn32tab", "math/bits.deBruijn64tab"], apart := false, laid := [("math/bits.deBruijn32tab", laid_math_bits_deBruijn32tab), ("math/bits.deBruijn64tab", laid_math_bits_deBruijn64tab)], narrowed := true }
def FnExactHasAttackPathUptoSaid : Prop := fnExactHasAttackPathUptoRow.holds Tryd.pinned (OpenSpec.upto fnExactHasAttackPathSpec)

/-- 'laws.FnExactIsCyclic', WHERE WHAT IT READS IS OF BULK AT MOST 1048576: true; the input reads as it did. -/
def fnExactIsCyclicUptoRow : OpenClaim := { program := "ytgoofnhhhlncoabdoor", sum := "ff232d7110587f2874dd5dcd841b2984f509a0470b283e82d2809ea6fb155804", func := "loop.example/g01918/laws.FnExactIsCyclic", spec := "fnExactIsCyclic", inPlace := ["internal/bytealg.abigen_runtime_cmpstring"], unfollowed := true, recurses := true, named := ["math/bits.deBruijn32tab", "math/bits.deBruijn64tab"], apart := false, laid := [("math/bits.deBruijn32tab", laid_math_bits_deBruijn32tab), ("math/bits.deBruijn64tab", laid_math_bits_deBruijn64tab)], narrowed := true }
def FnExactIsCyclicUptoSaid : Prop := fnExactIsCyclicUptoRow.holds Tryd.pinned (OpenSpec.upto fnExactIsCyclicSpec)

/-- 'laws.FnExactClassify', WHERE WHAT IT READS IS OF BULK AT MOST 1048576: true; the input reads as it did. -/
def fnExactClassifyUptoRow : OpenClaim := { program := "ytgoofnhhhlncoabdoor", sum := "ff232d7110587f2874dd5dcd841b2984f509a0470b283e82d2809ea6fb155804", func := "loop.example/g01918/laws.FnExactClassify", spec := "fnExactClassify", inPlace := ["internal/bytealg.abigen_runtime_cmpstring"], unfollowed := true, recurses := true, named := ["math/bits.deBruijn32tab", "math/bits.deBruijn64tab"], apart := false, laid := [("math/bits.deBruijn32tab", laid_math_bits_deBruijn32tab), ("math/bits.deBruijn64tab", laid_math_bits_deBruijn64tab)], narrowed := true }
def FnExactClassifyUptoSaid : Prop := fnExactClassifyUptoRow.holds Tryd.pinned (OpenSpec.upto fnExactClassifySpec)

end Rows
end Go.Proofs.YtgoofnhhhlncoabDoor
