/-
  No cell of these rows narrows 'for every input' (looked for: loops, veiled, ifaces, maps, wideKeys, modest, calm, conditions, laid).
  DERIVED. THE GIVEN ROWS OF THIS SEAT. 5 by the template 'for every input the law returns true; each argument reads behind the call as it read before'; 0 by the template 'total and deterministic' (their statements: YtpfljebndnfpmaaTotals.lean).
  GIVEN WITH THE SEED: the statements are not yours to turn. If you find one false, say at which input.
  Laid BY PROGRAM, IN A SANDBOX (cutbox-rows.mjs): the forced cells as the released guide's own fill.sh prints them over the translation 52ac3799d8558f51… (all of the seat's roots in one cut). By AI agents, Wed Nov 11 2026. No macro, syntax, notation, axiom, sorry.
-/
import Derived.Test.YtpfljebndnfpmaaChecked
import GoSem.Claim
import GoSem.ClaimJoined
import GoSem.ClaimMapViews
import Derived.JoinedTies
import Derived.KernelRfl
namespace Go.Proofs.Ytpfljebndnfpmaa
/- THE CELL 'sum', in the pinned program and in every row, IS THE sha256 OF THE DUMP (.gsa) THAT YtpfljebndnfpmaaProg.lean LOADS. Nothing in Lean hashes anything: it is a label: what it is worth is what the hold of that sum in a sandbox is worth. -/
noncomputable def Try.pinned : Pinned := { name := "ytpfljebndnfpmaa", sum := "52ac3799d8558f51198c1f43612e17a587246d22a0e5b41851dcefb73509014e", checked := Try.checked }
namespace Rows
def none {H : Type} : Left H := { results := [], args := [] }

/-- 'laws.FnExactNewestFirst': WHATEVER THE INPUT: true; the input reads as it did. -/
def fnExactNewestFirstSpec : ChangeSpec := { name := "fnExactNewestFirst", fn := fun _ => fun
  | [d1, d2] => { results := [.lit (.bool true)], args := [d1, d2] }
  | _ => none }
def fnExactNewestFirstRow : OpenClaim := { program := "ytpfljebndnfpmaa", sum := "52ac3799d8558f51198c1f43612e17a587246d22a0e5b41851dcefb73509014e", func := "loop.example/g01918/laws.FnExactNewestFirst", spec := "fnExactNewestFirst", inPlace := ["internal/bytealg.abigen_runtime_cmpstring"], unfollowed := true, recurses := true, apart := false }
def FnExactNewestFirstSaid : Prop := fnExactNewestFirstRow.holds Try.pinned (OpenSpec.ofChange fnExactNewestFirstSpec)

/-- ITS FALSE NEIGHBOUR: 'it returns false'. Refute it at one input. -/
def fnExactNewestFirstWrong : ChangeSpec := { name := "fnExactNewestFirst", fn := fun _ => fun
  | [d1, d2] => { results := [.lit (.bool false)], args := [d1, d2] }
  | _ => none }
def FnExactNewestFirstWrongFalsely : Prop := fnExactNewestFirstRow.holds Try.pinned (OpenSpec.ofChange fnExactNewestFirstWrong)

/-- 'laws.FnExactMostLikelyRepair': WHATEVER THE INPUT: true; the input reads as it did. -/
def fnExactMostLikelyRepairSpec : ChangeSpec := { name := "fnExactMostLikelyRepair", fn := fun _ => fun
  | [d1, d2] => { results := [.lit (.bool true)], args := [d1, d2] }
  | _ => none }
def fnExactMostLikelyRepairRow : OpenClaim := { program := "ytpfljebndnfpmaa", sum := "52ac3799d8558f51198c1f43612e17a587246d22a0e5b41851dcefb73509014e", func := "loop.example/g01918/laws.FnExactMostLikelyRepair", spec := "fnExactMostLikelyRepair", inPlace := ["internal/bytealg.abigen_runtime_cmpstring"], unfollowed := true, recurses := true, apart := false }
def FnExactMostLikelyRepairSaid : Prop := fnExactMostLikelyRepairRow.holds Try.pinned (OpenSpec.ofChange fnExactMostLikelyRepairSpec)

/-- ITS FALSE NEIGHBOUR: 'it returns false'. Refute it at one input. -/
def fnExactMostLikelyRepairWrong : ChangeSpec := { name := "fnExactMostLikelyRepair", fn := fun _ => fun
  | [d1, d2] => { results := [.lit (.bool false)], args := [d1, d2] }
  | _ => none }
def FnExactMostLikelyRepairWrongFalsely : Prop := fnExactMostLikelyRepairRow.holds Try.pinned (OpenSpec.ofChange fnExactMostLikelyRepairWrong)

/-- 'laws.FnExactCertainRowsOf': WHATEVER THE INPUT: true; the input reads as it did. -/
def fnExactCertainRowsOfSpec : ChangeSpec := { name := "fnExactCertainRowsOf", fn := fun _ => fun
  | [d] => { results := [.lit (.bool true)], args := [d] }
  | _ => none }
def fnExactCertainRowsOfRow : OpenClaim := { program := "ytpfljebndnfpmaa", sum := "52ac3799d8558f51198c1f43612e17a587246d22a0e5b41851dcefb73509014e", func := "loop.example/g01918/laws.FnExactCertainRowsOf", spec := "fnExactCertainRowsOf", unfollowed := true, recurses := true, apart := false }
def FnExactCertainRowsOfSaid : Prop := fnExactCertainRowsOfRow.holds Try.pinned (OpenSpec.ofChange fnExactCertainRowsOfSpec)

/-- ITS FALSE NEIGHBOUR: 'it returns false'. Refute it at one input. -/
def fnExactCertainRowsOfWrong : ChangeSpec := { name := "fnExactCertainRowsOf", fn := fun _ => fun
  | [d] => { results := [.lit (.bool false)], args := [d] }
  | _ => none }
def FnExactCertainRowsOfWrongFalsely : Prop := fnExactCertainRowsOfRow.holds Try.pinned (OpenSpec.ofChange fnExactCertainRowsOfWrong)

/-- 'laws.FnExactEqualViews': WHATEVER THE INPUT: true; the input reads as it did. -/
def fnExactEqualViewsSpec : ChangeSpec := { name := "fnExactEqualViews", fn := fun _ => fun
  | [d1, d2] => { results := [.lit (.bool true)], args := [d1, d2] }
  | _ => none }
def fnExactEqualViewsRow : OpenClaim := { program := "ytpfljebndnfpmaa", sum := "52ac3799d8558f51198c1f43612e17a587246d22a0e5b41851dcefb73509014e", func := "loop.example/g01918/laws.FnExactEqualViews", spec := "fnExactEqualViews", unfollowed := true, recurses := true, apart := false }
def FnExactEqualViewsSaid : Prop := fnExactEqualViewsRow.holds Try.pinned (OpenSpec.ofChange fnExactEqualViewsSpec)

/-- ITS FALSE NEIGHBOUR: 'it returns false'. Refute it at one input. -/
def fnExactEqualViewsWrong : ChangeSpec := { name := "fnExactEqualViews", fn := fun _ => fun
  | [d1, d2] => { results := [.lit (.bool false)], args := [d1, d2] }
  | _ => none }
def FnExactEqualViewsWrongFalsely : Prop := fnExactEqualViewsRow.holds Try.pinned (OpenSpec.ofChange fnExactEqualViewsWrong)

/-- 'laws.FnExactIsValidRewriting': WHATEVER THE INPUT: true; the input reads as it did. -/
def fnExactIsValidRewritingSpec : ChangeSpec := { name := "fnExactIsValidRewriting", fn := fun _ => fun
  | [d1, d2] => { results := [.lit (.bool true)], args := [d1, d2] }
  | _ => none }
def fnExactIsValidRewritingRow : OpenClaim := { program := "ytpfljebndnfpmaa", sum := "52ac3799d8558f51198c1f43612e17a587246d22a0e5b41851dcefb73509014e", func := "loop.example/g01918/laws.FnExactIsValidRewriting", spec := "fnExactIsValidRewriting", inPlace := ["internal/bytealg.abigen_runtime_cmpstring"], unfollowed := true, recurses := true, apart := false }
def FnExactIsValidRewritingSaid : Prop := fnExactIsValidRewritingRow.holds Try.pinned (OpenSpec.ofChange fnExactIsValidRewritingSpec)

/-- ITS FALSE NEIGHBOUR: 'it returns false'. Refute it at one input. -/
def fnExactIsValidRewritingWrong : ChangeSpec := { name := "fnExactIsValidRewriting", fn := fun _ => fun
  | [d1, d2] => { results := [.lit (.bool false)], args := [d1, d2] }
  | _ => none }
def FnExactIsValidRewritingWrongFalsely : Prop := fnExactIsValidRewritingRow.holds Try.pinned (OpenSpec.ofChange fnExactIsValidRewritingWrong)

/- THE SECOND FORM. 'bulk': how many values and letters a reading holds, each counted each time it is reached (what is shared counts as often as it is met; a slice's spare places count too). A statement '..UptoSaid' is the law's where the arguments, and the package variables that the reading takes, are together of bulk at most 1048576: NARROWER than '..Said'. Prove '..Said' where nothing that the law and all that it calls make is longer than what came in: it says more and counts as full. Else prove '..UptoSaid'. A law counts once. -/
mutual
def uptoBulk {H : Type} : DataW H → Nat
  | .lit (.string bytes) => bytes.length + 1
  | .lit _ => 1
  | .nil => 1
  | .ptr d => uptoBulk d + 1
  | .slice elems spare => uptoBulkAll elems + uptoBulkAll spare + 1
  | .agg parts => uptoBulkAll parts + 1
  | .iface _ d => uptoBulk d + 1
  | .map entries => uptoBulkEntries entries + 1
  | .held _ => 1
def uptoBulkAll {H : Type} : List (DataW H) → Nat
  | [] => 0
  | d :: r => uptoBulk d + uptoBulkAll r
def uptoBulkEntries {H : Type} : List (Lit × DataW H) → Nat
  | [] => 0
  | x :: r => uptoBulkEntry x + uptoBulkEntries r
def uptoBulkEntry {H : Type} : Lit × DataW H → Nat
  | (.string bytes, d) => bytes.length + uptoBulk d + 1
  | (_, d) => uptoBulk d + 1
 end
def uptoSmall : (H : Type) → List (DataW H) → Bool := fun _ ds => decide (uptoBulkAll ds ≤ 1048576)
def OpenSpec.upto (s : _root_.Go.ChangeSpec) : _root_.Go.OpenSpec := { _root_.Go.OpenSpec.ofChange s with cond := some uptoSmall }

/-- 'laws.FnExactNewestFirst', WHERE WHAT IT READS IS OF BULK AT MOST 1048576: true; the input reads as it did. -/
def fnExactNewestFirstUptoRow : OpenClaim := { program := "ytpfljebndnfpmaa", sum := "52ac3799d8558f51198c1f43612e17a587246d22a0e5b41851dcefb73509014e", func := "loop.example/g01918/laws.FnExactNewestFirst", spec := "fnExactNewestFirst", inPlace := ["internal/bytealg.abigen_runtime_cmpstring"], unfollowed := true, recurses := true, apart := false, narrowed := true }
def FnExactNewestFirstUptoSaid : Prop := fnExactNewestFirstUptoRow.holds Try.pinned (OpenSpec.upto fnExactNewestFirstSpec)

/-- 'laws.FnExactMostLikelyRepair', WHERE WHAT IT READS IS OF BULK AT MOST 1048576: true; the input reads as it did. -/
def fnExactMostLikelyRepairUptoRow : OpenClaim := { program := "ytpfljebndnfpmaa", sum := "52ac3799d8558f51198c1f43612e17a587246d22a0e5b41851dcefb73509014e", func := "loop.example/g01918/laws.FnExactMostLikelyRepair", spec := "fnExactMostLikelyRepair", inPlace := ["internal/bytealg.abigen_runtime_cmpstring"], unfollowed := true, recurses := true, apart := false, narrowed := true }
def FnExactMostLikelyRepairUptoSaid : Prop := fnExactMostLikelyRepairUptoRow.holds Try.pinned (OpenSpec.upto fnExactMostLikelyRepairSpec)

/-- 'laws.FnExactCertainRowsOf', WHERE WHAT IT READS IS OF BULK AT MOST 1048576: true; the input reads as it did. -/
def fnExactCertainRowsOfUptoRow : OpenClaim := { program := "ytpfljebndnfpmaa", sum := "52ac3799d8558f51198c1f43612e17a587246d22a0e5b41851dcefb73509014e", func := "loop.example/g01918/laws.FnExactCertainRowsOf", spec := "fnExactCertainRowsOf", unfollowed := true, recurses := true, apart := false, narrowed := true }
def FnExactCertainRowsOfUptoSaid : Prop := fnExactCertainRowsOfUptoRow.holds Try.pinned (OpenSpec.upto fnExactCertainRowsOfSpec)

/-- 'laws.FnExactEqualViews', WHERE WHAT IT READS IS OF BULK AT MOST 1048576: true; the input reads as it did. -/
def fnExactEqualViewsUptoRow : OpenClaim := { program := "ytpfljebndnfpmaa", sum := "52ac3799d8558f51198c1f43612e17a587246d22a0e5b41851dcefb73509014e", func := "loop.example/g01918/laws.FnExactEqualViews", spec := "fnExactEqualViews", unfollowed := true, recurses := true, apart := false, narrowed := true }
def FnExactEqualViewsUptoSaid : Prop := fnExactEqualViewsUptoRow.holds Try.pinned (OpenSpec.upto fnExactEqualViewsSpec)

/-- 'laws.FnExactIsValidRewriting', WHERE WHAT IT READS IS OF BULK AT MOST 1048576: true; the input reads as it did. -/
def fnExactIsValidRewritingUptoRow : OpenClaim := { program := "ytpfljebndnfpmaa", sum := "52ac3799d8558f51198c1f43612e17a587246d22a0e5b41851dcefb73509014e", func := "loop.example/g01918/laws.FnExactIsValidRewriting", spec := "fnExactIsValidRewriting", inPlace := ["internal/bytealg.abigen_runtime_cmpstring"], unfollowed := true, recurses := true, apart := false, narrowed := true }
def FnExactIsValidRewritingUptoSaid : Prop := fnExactIsValidRewritingUptoRow.holds Try.pinned (OpenSpec.upto fnExactIsValidRewritingSpec)

end Rows
end Go.Proofs.Ytpfljebndnfpmaa
