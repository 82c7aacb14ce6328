/-
  NARROWER THAN 'FOR EVERY INPUT', by the rows' own cells (each row's printed sentence says how): FnExactFormatRelation: laid · FnExactParseRelation: laid · FnExactFormatTerm: laid · FnExactParseTerm: laid · FnExactFormatFraction: laid · FnExactFormatClause: laid · FnExactFormatConstraint: laid · FnExactFormatRows: laid · FnExactFormatClauses: laid · FnExactFormatGroups: laid · FnExactFormatFact: laid · FnExactFormatEdit: laid.
  DERIVED. THE GIVEN ROWS OF THIS SEAT. 12 by the template 'for every input the law returns true; each argument reads behind the call as it read before'; 0 by the template 'total and deterministic' (their statements: YthkbmfpgdidfhaaDoorTotals.lean).
  GIVEN WITH THE SEED: the statements are not yours to turn. If you find one false, say at which input.
  Laid BY PROGRAM, IN A SANDBOX (cutbox-rows.mjs): the forced cells as the released guide's own fill.sh prints them over the translation 0bdbbed90efb9ccf… (all of the seat's roots in one cut). By AI agents, Wed Nov 11 2026. No macro, syntax, notation, axiom, sorry.
-/
import Derived.Test.YthkbmfpgdidfhaaDoorChecked
import GoSem.Claim
import GoSem.ClaimJoined
import GoSem.ClaimMapViews
import Derived.JoinedTies
import Derived.KernelRfl
namespace Go.Proofs.YthkbmfpgdidfhaaDoor
/- THE CELL 'sum', in the pinned program and in every row, IS THE sha256 OF THE DUMP (.gsa) THAT YthkbmfpgdidfhaaDoorProg.lean LOADS. Nothing in Lean hashes anything: it is a label: what it is worth is what the hold of that sum in a sandbox is worth. -/
noncomputable def Tryd.pinned : Pinned := { name := "ythkbmfpgdidfhaadoor", sum := "0bdbbed90efb9ccf60f053232259016891dd7dab03056cacab288eca0c1a6f99", checked := Tryd.checked }
namespace Rows
def none {H : Type} : Left H := { results := [], args := [] }

/- WHAT THE LISTED PACKAGE-LEVEL VARIABLES READ AS WHEN THE CALL BEGINS. Each datum BY PROGRAM (the guide's laid-datum.mjs) off the statement by which the dump's own 'gosem.cut.vars' lays the variable. In a bare row this is a premise. The card (YthkbmfpgdidfhaaDoorCards.lean) ties it to the program's text. -/
def laid_math_bits_deBruijn32tab {H : Type} : DataW H := .agg [.lit (.int .u8 0), .lit (.int .u8 1), .lit (.int .u8 28), .lit (.int .u8 2), .lit (.int .u8 29), .lit (.int .u8 14), .lit (.int .u8 24), .lit (.int .u8 3), .lit (.int .u8 30), .lit (.int .u8 22), .lit (.int .u8 20), .lit (.int .u8 15), .lit (.int .u8 25), .lit (.int .u8 17), .lit (.int .u8 4), .lit (.int .u8 8), .lit (.int .u8 31), .lit (.int .u8 27), .lit (.int .u8 13), .lit (.int .u8 23), .lit (.int .u8 21), .lit (.int .u8 19), .lit (.int .u8 16), .lit (.int .u8 7), .lit (.int .u8 26), .lit (.int .u8 12), .lit (.int .u8 18), .lit (.int .u8 6), .lit (.int .u8 11), .lit (.int .u8 5), .lit (.int .u8 10), .lit (.int .u8 9)]
def laid_math_bits_deBruijn64tab {H : Type} : DataW H := .agg [.lit (.int .u8 0), .lit (.int .u8 1), .lit (.int .u8 56), .lit (.int .u8 2), .lit (.int .u8 57), .lit (.int .u8 49), .lit (.int .u8 28), .lit (.int .u8 3), .lit (.int .u8 61), .lit (.int .u8 58), .lit (.int .u8 42), .lit (.int .u8 50), .lit (.int .u8 38), .lit (.int .u8 29), .lit (.int .u8 17), .lit (.int .u8 4), .lit (.int .u8 62), .lit (.int .u8 47), .lit (.int .u8 59), .lit (.int .u8 36), .lit (.int .u8 45), .lit (.int .u8 43), .lit (.int .u8 51), .lit (.int .u8 22), .lit (.int .u8 53), .lit (.int .u8 39), .lit (.int .u8 33), .lit (.int .u8 30), .lit (.int .u8 24), .lit (.int .u8 18), .lit (.int .u8 12), .lit (.int .u8 5), .lit (.int .u8 63), .lit (.int .u8 55), .lit (.int .u8 48), .lit (.int .u8 27), .lit (.int .u8 60), .lit (.int .u8 41), .lit (.int .u8 37), .lit (.int .u8 16), .lit (.int .u8 46), .lit (.int .u8 35), .lit (.int .u8 44), .lit (.int .u8 21), .lit (.int .u8 52), .lit (.int .u8 32), .lit (.int .u8 23), .lit (.int .u8 11), .lit (.int .u8 54), .lit (.int .u8 26), .lit (.int .u8 40), .lit (.int .u8 15), .lit (.int .u8 34), .lit (.int .u8 20), .lit (.int .u8 31), .lit (.int .u8 10), .lit (.int .u8 25), .lit (.int .u8 14), .lit (.int .u8 19), .lit (.int .u8 9), .lit (.int .u8 13), .lit (.int .u8 8), .lit (.int .u8 7), .lit (.int .u8 6)]
def laid_internal_strconv_uint64pow10 {H : Type} : DataW H := .agg [.lit (.int .u64 1), .lit (.int .u64 10), .lit (.int .u64 100), .lit (.int .u64 1000), .lit (.int .u64 10000), .lit (.int .u64 100000), .lit (.int .u64 1000000), .lit (.int .u64 10000000), .lit (.int .u64 100000000), .lit (.int .u64 1000000000), .lit (.int .u64 10000000000), .lit (.int .u64 100000000000), .lit (.int .u64 1000000000000), .lit (.int .u64 10000000000000), .lit (.int .u64 100000000000000), .lit (.int .u64 1000000000000000), .lit (.int .u64 10000000000000000), .lit (.int .u64 100000000000000000), .lit (.int .u64 1000000000000000000), .lit (.int .u64 10000000000000000000)]
def laid_strconv_ErrRange {H : Type} : DataW H := .iface "*errors.errorString" (.ptr (.agg [.lit (.string [118, 97, 108, 117, 101, 32, 111, 117, 116, 32, 111, 102, 32, 114, 97, 110, 103, 101])]))
def laid_strconv_ErrSyntax {H : Type} : DataW H := .iface "*errors.errorString" (.ptr (.agg [.lit (.string [105, 110, 118, 97, 108, 105, 100, 32, 115, 121, 110, 116, 97, 120])]))

/-- 'laws.FnExactFormatRelation': WHATEVER THE INPUT: true; the input reads as it did. -/
def fnExactFormatRelationSpec : ChangeSpec := { name := "fnExactFormatRelation", fn := fun _ => fun
  | [d] => { results := [.lit (.bool true)], args := [d] }
  | _ => none }
def fnExactFormatRelationRow : OpenClaim := { program := "ythkbmfpgdidfhaadoor", sum := "0bdbbed90efb9ccf60f053232259016891dd7dab03056cacab288eca0c1a6f99", func := "loop.example/g01918/laws.FnExactFormatRelation", spec := "fnExactFormatRelation", named := ["internal/strconv.uint64pow10", "math/bits.deBruijn32tab", "math/bits.deBruijn64tab"], apart := false, laid := [("math/bits.deBruijn32tab", laid_math_bits_deBruijn32tab), ("math/bits.deBruijn64tab", laid_math_bits_deBruijn64tab), ("internal/strconv.uint64pow10", laid_internal_strconv_uint64pow10)] }
def FnExactFormatRelationSaid : Prop := fnExactFormatRelationRow.holds Tryd.pinned (OpenSpec.ofChange fnExactFormatRelationSpec)

/-- ITS FALSE NEIGHBOUR: 'it returns false'. Refute it at one input. -/
def fnExactFormatRelationWrong : ChangeSpec := { name := "fnExactFormatRelation", fn := fun _ => fun
  | [d] => { results := [.lit (.bool false)], args := [d] }
  | _ => none }
def FnExactFormatRelationWrongFalsely : Prop := fnExactFormatRelationRow.holds Tryd.pinned (OpenSpec.ofChange fnExactFormatRelationWrong)

/-- 'laws.FnExactParseRelation': WHATEVER THE INPUT: true; the input reads as it did. -/
def fnExactParseRelationSpec : ChangeSpec := { name := "fnExactParseRelation", fn := fun _ => fun
  | [d] => { results := [.lit (.bool true)], args := [d] }
  | _ => none }
def fnExactParseRelationRow : OpenClaim := { program := "ythkbmfpgdidfhaadoor", sum := "0bdbbed90efb9ccf60f053232259016891dd7dab03056cacab288eca0c1a6f99", func := "loop.example/g01918/laws.FnExactParseRelation", spec := "fnExactParseRelation", named := ["internal/strconv.uint64pow10", "math/bits.deBruijn32tab", "math/bits.deBruijn64tab"], apart := false, laid := [("math/bits.deBruijn32tab", laid_math_bits_deBruijn32tab), ("math/bits.deBruijn64tab", laid_math_bits_deBruijn64tab), ("internal/strconv.uint64pow10", laid_internal_strconv_uint64pow10)] }
def FnExactParseRelationSaid : Prop := fnExactParseRelationRow.holds Tryd.pinned (OpenSpec.ofChange fnExactParseRelationSpec)

/-- ITS FALSE NEIGHBOUR: 'it returns false'. Refute it at one input. -/
def fnExactParseRelationWrong : ChangeSpec := { name := "fnExactParseRelation", fn := fun _ => fun
  | [d] => { results := [.lit (.bool false)], args := [d] }
  | _ => none }
def FnExactParseRelationWrongFalsely : Prop := fnExactParseRelationRow.holds Tryd.pinned (OpenSpec.ofChange fnExactParseRelationWrong)

/-- 'laws.FnExactFormatTerm': WHATEVER THE INPUT: true; the input reads as it did. -/
def fnExactFormatTermSpec : ChangeSpec := { name := "fnExactFormatTerm", fn := fun _ => fun
  | [d] => { results := [.lit (.bool true)], args := [d] }
  | _ => none }
def fnExactFormatTermRow : OpenClaim := { program := "ythkbmfpgdidfhaadoor", sum := "0bdbbed90efb9ccf60f053232259016891dd7dab03056cacab288eca0c1a6f99", func := "loop.example/g01918/laws.FnExactFormatTerm", spec := "fnExactFormatTerm", named := ["internal/strconv.uint64pow10", "math/bits.deBruijn32tab", "math/bits.deBruijn64tab"], apart := false, laid := [("math/bits.deBruijn32tab", laid_math_bits_deBruijn32tab), ("math/bits.deBruijn64tab", laid_math_bits_deBruijn64tab), ("internal/strconv.uint64pow10", laid_internal_strconv_uint64pow10)] }
def FnExactFormatTermSaid : Prop := fnExactFormatTermRow.holds Tryd.pinned (OpenSpec.ofChange fnExactFormatTermSpec)

/-- ITS FALSE NEIGHBOUR: 'it returns false'. Refute it at one input. -/
def fnExactFormatTermWrong : ChangeSpec := { name := "fnExactFormatTerm", fn := fun _ => fun
  | [d] => { results := [.lit (.bool false)], args := [d] }
  | _ => none }
def FnExactFormatTermWrongFalsely : Prop := fnExactFormatTermRow.holds Tryd.pinned (OpenSpec.ofChange fnExactFormatTermWrong)

/-- 'laws.FnExactParseTerm': WHATEVER THE INPUT: true; the input reads as it did. -/
def fnExactParseTermSpec : ChangeSpec := { name := "fnExactParseTerm", fn := fun _ => fun
  | [d] => { results := [.lit (.bool true)], args := [d] }
  | _ => none }
def fnExactParseTermRow : OpenClaim := { program := "ythkbmfpgdidfhaadoor", sum := "0bdbbed90efb9ccf60f053232259016891dd7dab03056cacab288eca0c1a6f99", func := "loop.example/g01918/laws.FnExactParseTerm", spec := "fnExactParseTerm", inPlace := ["internal/bytealg.IndexByteString", "internal/bytealg.IndexString"], named := ["internal/bytealg.MaxLen", "strconv.ErrSyntax", "strconv.ErrRange", "internal/strconv.uint64pow10", "math/bits.deBruijn32tab", "math/bits.deBruijn64tab"], apart := false, laid := [("math/bits.deBruijn32tab", laid_math_bits_deBruijn32tab), ("math/bits.deBruijn64tab", laid_math_bits_deBruijn64tab), ("internal/strconv.uint64pow10", laid_internal_strconv_uint64pow10), ("strconv.ErrRange", laid_strconv_ErrRange), ("strconv.ErrSyntax", laid_strconv_ErrSyntax)] }
def FnExactParseTermSaid : Prop := fnExactParseTermRow.holds Tryd.pinned (OpenSpec.ofChange fnExactParseTermSpec)

/-- ITS FALSE NEIGHBOUR: 'it returns false'. Refute it at one input. -/
def fnExactParseTermWrong : ChangeSpec := { name := "fnExactParseTerm", fn := fun _ => fun
  | [d] => { results := [.lit (.bool false)], args := [d] }
  | _ => none }
def FnExactParseTermWrongFalsely : Prop := fnExactParseTermRow.holds Tryd.pinned (OpenSpec.ofChange fnExactParseTermWrong)

/-- 'laws.FnExactFormatFraction': WHATEVER THE INPUT: true; the input reads as it did. -/
def fnExactFormatFractionSpec : ChangeSpec := { name := "fnExactFormatFraction", fn := fun _ => fun
  | [d] => { results := [.lit (.bool true)], args := [d] }
  | _ => none }
def fnExactFormatFractionRow : OpenClaim := { program := "ythkbmfpgdidfhaadoor", sum := "0bdbbed90efb9ccf60f053232259016891dd7dab03056cacab288eca0c1a6f99", func := "loop.example/g01918/laws.FnExactFormatFraction", spec := "fnExactFormatFraction", named := ["internal/strconv.uint64pow10", "math/bits.deBruijn32tab", "math/bits.deBruijn64tab"], apart := false, laid := [("math/bits.deBruijn32tab", laid_math_bits_deBruijn32tab), ("math/bits.deBruijn64tab", laid_math_bits_deBruijn64tab), ("internal/strconv.uint64pow10", laid_internal_strconv_uint64pow10)] }
def FnExactFormatFractionSaid : Prop := fnExactFormatFractionRow.holds Tryd.pinned (OpenSpec.ofChange fnExactFormatFractionSpec)

/-- ITS FALSE NEIGHBOUR: 'it returns false'. Refute it at one input. -/
def fnExactFormatFractionWrong : ChangeSpec := { name := "fnExactFormatFraction", fn := fun _ => fun
  | [d] => { results := [.lit (.bool false)], args := [d] }
  | _ => none }
def FnExactFormatFractionWrongFalsely : Prop := fnExactFormatFractionRow.holds Tryd.pinned (OpenSpec.ofChange fnExactFormatFractionWrong)

/-- 'laws.FnExactFormatClause': WHATEVER THE INPUT: true; the input reads as it did. -/
def fnExactFormatClauseSpec : ChangeSpec := { name := "fnExactFormatClause", fn := fun _ => fun
  | [d] => { results := [.lit (.bool true)], args := [d] }
  | _ => none }
def fnExactFormatClauseRow : OpenClaim := { program := "ythkbmfpgdidfhaadoor", sum := "0bdbbed90efb9ccf60f053232259016891dd7dab03056cacab288eca0c1a6f99", func := "loop.example/g01918/laws.FnExactFormatClause", spec := "fnExactFormatClause", inPlace := ["internal/abi.NoEscape", "internal/bytealg.MakeNoZero"], unfollowed := true, recurses := true, named := ["internal/strconv.uint64pow10", "math/bits.deBruijn32tab", "math/bits.deBruijn64tab"], apart := false, laid := [("math/bits.deBruijn32tab", laid_math_bits_deBruijn32tab), ("math/bits.deBruijn64tab", laid_math_bits_deBruijn64tab), ("internal/strconv.uint64pow10", laid_internal_strconv_uint64pow10)] }
def FnExactFormatClauseSaid : Prop := fnExactFormatClauseRow.holds Tryd.pinned (OpenSpec.ofChange fnExactFormatClauseSpec)

/-- ITS FALSE NEIGHBOUR: 'it returns false'. Refute it at one input. -/
def fnExactFormatClauseWrong : ChangeSpec := { name := "fnExactFormatClause", fn := fun _ => fun
  | [d] => { results := [.lit (.bool false)], args := [d] }
  | _ => none }
def FnExactFormatClauseWrongFalsely : Prop := fnExactFormatClauseRow.holds Tryd.pinned (OpenSpec.ofChange fnExactFormatClauseWrong)

/-- 'laws.FnExactFormatConstraint': WHATEVER THE INPUT: true; the input reads as it did. -/
def fnExactFormatConstraintSpec : ChangeSpec := { name := "fnExactFormatConstraint", fn := fun _ => fun
  | [d1, d2] => { results := [.lit (.bool true)], args := [d1, d2] }
  | _ => none }
def fnExactFormatConstraintRow : OpenClaim := { program := "ythkbmfpgdidfhaadoor", sum := "0bdbbed90efb9ccf60f053232259016891dd7dab03056cacab288eca0c1a6f99", func := "loop.example/g01918/laws.FnExactFormatConstraint", spec := "fnExactFormatConstraint", inPlace := ["internal/bytealg.abigen_runtime_cmpstring"], unfollowed := true, recurses := true, named := ["internal/strconv.uint64pow10", "math/bits.deBruijn32tab", "math/bits.deBruijn64tab"], apart := false, laid := [("math/bits.deBruijn32tab", laid_math_bits_deBruijn32tab), ("math/bits.deBruijn64tab", laid_math_bits_deBruijn64tab), ("internal/strconv.uint64pow10", laid_internal_strconv_uint64pow10)] }
def FnExactFormatConstraintSaid : Prop := fnExactFormatConstraintRow.holds Tryd.pinned (OpenSpec.ofChange fnExactFormatConstraintSpec)

/-- ITS FALSE NEIGHBOUR: 'it returns false'. Refute it at one input. -/
def fnExactFormatConstraintWrong : ChangeSpec := { name := "fnExactFormatConstraint", fn := fun _ => fun
  | [d1, d2] => { results := [.lit (.bool false)], args := [d1, d2] }
  | _ => none }
def FnExactFormatConstraintWrongFalsely : Prop := fnExactFormatConstraintRow.holds Tryd.pinned (OpenSpec.ofChange fnExactFormatConstraintWrong)

/-- 'laws.FnExactFormatRows': WHATEVER THE INPUT: true; the input reads as it did. -/
def fnExactFormatRowsSpec : ChangeSpec := { name := "fnExactFormatRows", fn := fun _ => fun
  | [d] => { results := [.lit (.bool true)], args := [d] }
  | _ => none }
def fnExactFormatRowsRow : OpenClaim := { program := "ythkbmfpgdidfhaadoor", sum := "0bdbbed90efb9ccf60f053232259016891dd7dab03056cacab288eca0c1a6f99", func := "loop.example/g01918/laws.FnExactFormatRows", spec := "fnExactFormatRows", inPlace := ["internal/abi.NoEscape", "internal/bytealg.MakeNoZero"], unfollowed := true, recurses := true, named := ["internal/strconv.uint64pow10", "math/bits.deBruijn32tab", "math/bits.deBruijn64tab"], apart := false, laid := [("math/bits.deBruijn32tab", laid_math_bits_deBruijn32tab), ("math/bits.deBruijn64tab", laid_math_bits_deBruijn64tab), ("internal/strconv.uint64pow10", laid_internal_strconv_uint64pow10)] }
def FnExactFormatRowsSaid : Prop := fnExactFormatRowsRow.holds Tryd.pinned (OpenSpec.ofChange fnExactFormatRowsSpec)

/-- ITS FALSE NEIGHBOUR: 'it returns false'. Refute it at one input. -/
def fnExactFormatRowsWrong : ChangeSpec := { name := "fnExactFormatRows", fn := fun _ => fun
  | [d] => { results := [.lit (.bool false)], args := [d] }
  | _ => none }
def FnExactFormatRowsWrongFalsely : Prop := fnExactFormatRowsRow.holds Tryd.pinned (OpenSpec.ofChange fnExactFormatRowsWrong)

/-- 'laws.FnExactFormatClauses': WHATEVER THE INPUT: true; the input reads as it did. -/
def fnExactFormatClausesSpec : ChangeSpec := { name := "fnExactFormatClauses", fn := fun _ => fun
  | [d1, d2] => { results := [.lit (.bool true)], args := [d1, d2] }
  | _ => none }
def fnExactFormatClausesRow : OpenClaim := { program := "ythkbmfpgdidfhaadoor", sum := "0bdbbed90efb9ccf60f053232259016891dd7dab03056cacab288eca0c1a6f99", func := "loop.example/g01918/laws.FnExactFormatClauses", spec := "fnExactFormatClauses", inPlace := ["internal/abi.NoEscape", "internal/bytealg.MakeNoZero"], unfollowed := true, recurses := true, named := ["internal/strconv.uint64pow10", "math/bits.deBruijn32tab", "math/bits.deBruijn64tab"], apart := false, laid := [("math/bits.deBruijn32tab", laid_math_bits_deBruijn32tab), ("math/bits.deBruijn64tab", laid_math_bits_deBruijn64tab), ("internal/strconv.uint64pow10", laid_internal_strconv_uint64pow10)] }
def FnExactFormatClausesSaid : Prop := fnExactFormatClausesRow.holds Tryd.pinned (OpenSpec.ofChange fnExactFormatClausesSpec)

/-- ITS FALSE NEIGHBOUR: 'it returns false'. Refute it at one input. -/
def fnExactFormatClausesWrong : ChangeSpec := { name := "fnExactFormatClauses", fn := fun _ => fun
  | [d1, d2] => { results := [.lit (.bool false)], args := [d1, d2] }
  | _ => none }
def FnExactFormatClausesWrongFalsely : Prop := fnExactFormatClausesRow.holds Tryd.pinned (OpenSpec.ofChange fnExactFormatClausesWrong)

/-- 'laws.FnExactFormatGroups': WHATEVER THE INPUT: true; the input reads as it did. -/
def fnExactFormatGroupsSpec : ChangeSpec := { name := "fnExactFormatGroups", fn := fun _ => fun
  | [d] => { results := [.lit (.bool true)], args := [d] }
  | _ => none }
def fnExactFormatGroupsRow : OpenClaim := { program := "ythkbmfpgdidfhaadoor", sum := "0bdbbed90efb9ccf60f053232259016891dd7dab03056cacab288eca0c1a6f99", func := "loop.example/g01918/laws.FnExactFormatGroups", spec := "fnExactFormatGroups", inPlace := ["internal/abi.NoEscape", "internal/bytealg.MakeNoZero"], unfollowed := true, recurses := true, named := ["internal/strconv.uint64pow10", "math/bits.deBruijn32tab", "math/bits.deBruijn64tab"], apart := false, laid := [("math/bits.deBruijn32tab", laid_math_bits_deBruijn32tab), ("math/bits.deBruijn64tab", laid_math_bits_deBruijn64tab), ("internal/strconv.uint64pow10", laid_internal_strconv_uint64pow10)] }
def FnExactFormatGroupsSaid : Prop := fnExactFormatGroupsRow.holds Tryd.pinned (OpenSpec.ofChange fnExactFormatGroupsSpec)

/-- ITS FALSE NEIGHBOUR: 'it returns false'. Refute it at one input. -/
def fnExactFormatGroupsWrong : ChangeSpec := { name := "fnExactFormatGroups", fn := fun _ => fun
  | [d] => { results := [.lit (.bool false)], args := [d] }
  | _ => none }
def FnExactFormatGroupsWrongFalsely : Prop := fnExactFormatGroupsRow.holds Tryd.pinned (OpenSpec.ofChange fnExactFormatGroupsWrong)

/-- 'laws.FnExactFormatFact': WHATEVER THE INPUT: true; the input reads as it did. -/
def fnExactFormatFactSpec : ChangeSpec := { name := "fnExactFormatFact", fn := fun _ => fun
  | [d1, d2] => { results := [.lit (.bool true)], args := [d1, d2] }
  | _ => none }
def fnExactFormatFactRow : OpenClaim := { program := "ythkbmfpgdidfhaadoor", sum := "0bdbbed90efb9ccf60f053232259016891dd7dab03056cacab288eca0c1a6f99", func := "loop.example/g01918/laws.FnExactFormatFact", spec := "fnExactFormatFact", inPlace := ["internal/bytealg.abigen_runtime_cmpstring", "internal/abi.NoEscape"], unfollowed := true, recurses := true, named := ["internal/strconv.uint64pow10", "math/bits.deBruijn32tab", "math/bits.deBruijn64tab"], apart := false, laid := [("math/bits.deBruijn32tab", laid_math_bits_deBruijn32tab), ("math/bits.deBruijn64tab", laid_math_bits_deBruijn64tab), ("internal/strconv.uint64pow10", laid_internal_strconv_uint64pow10)] }
def FnExactFormatFactSaid : Prop := fnExactFormatFactRow.holds Tryd.pinned (OpenSpec.ofChange fnExactFormatFactSpec)

/-- ITS FALSE NEIGHBOUR: 'it returns false'. Refute it at one input. -/
def fnExactFormatFactWrong : ChangeSpec := { name := "fnExactFormatFact", fn := fun _ => fun
  | [d1, d2] => { results := [.lit (.bool false)], args := [d1, d2] }
  | _ => none }
def FnExactFormatFactWrongFalsely : Prop := fnExactFormatFactRow.holds Tryd.pinned (OpenSpec.ofChange fnExactFormatFactWrong)

/-- 'laws.FnExactFormatEdit': WHATEVER THE INPUT: true; the input reads as it did. -/
def fnExactFormatEditSpec : ChangeSpec := { name := "fnExactFormatEdit", fn := fun _ => fun
  | [d1, d2] => { results := [.lit (.bool true)], args := [d1, d2] }
  | _ => none }
def fnExactFormatEditRow : OpenClaim := { program := "ythkbmfpgdidfhaadoor", sum := "0bdbbed90efb9ccf60f053232259016891dd7dab03056cacab288eca0c1a6f99", func := "loop.example/g01918/laws.FnExactFormatEdit", spec := "fnExactFormatEdit", inPlace := ["internal/bytealg.abigen_runtime_cmpstring", "internal/abi.NoEscape"], unfollowed := true, recurses := true, named := ["internal/strconv.uint64pow10", "math/bits.deBruijn32tab", "math/bits.deBruijn64tab"], apart := false, laid := [("math/bits.deBruijn32tab", laid_math_bits_deBruijn32tab), ("math/bits.deBruijn64tab", laid_math_bits_deBruijn64tab), ("internal/strconv.uint64pow10", laid_internal_strconv_uint64pow10)] }
def FnExactFormatEditSaid : Prop := fnExactFormatEditRow.holds Tryd.pinned (OpenSpec.ofChange fnExactFormatEditSpec)

/-- ITS FALSE NEIGHBOUR: 'it returns false'. Refute it at one input. -/
def fnExactFormatEditWrong : ChangeSpec := { name := "fnExactFormatEdit", fn := fun _ => fun
  | [d1, d2] => { results := [.lit (.bool false)], args := [d1, d2] }
  | _ => none }
def FnExactFormatEditWrongFalsely : Prop := fnExactFormatEditRow.holds Tryd.pinned (OpenSpec.ofChange fnExactFormatEditWrong)

/- THE SECOND FORM. 'bulk': how many values and letters a reading holds, each counted each time it is reached (what is shared counts as often as it is met; a slice's spare places count too). A statement '..UptoSaid' is the law's where the arguments, and the package variables that the reading takes, are together of bulk at most 1048576: NARROWER than '..Said'. Prove '..Said' where nothing that the law and all that it calls make is longer than what came in: it says more and counts as full. Else prove '..UptoSaid'. A law counts once. -/
mutual
def uptoBulk {H : Type} : DataW H → Nat
  | .lit (.string bytes) => bytes.length + 1
  | .lit _ => 1
  | .nil => 1
  | .ptr d => uptoBulk d + 1
  | .slice elems spare => uptoBulkAll elems + uptoBulkAll spare + 1
  | .agg parts => uptoBulkAll parts + 1
  | .iface _ d => uptoBulk d + 1
  | .map entries => uptoBulkEntries entries + 1
  | .held _ => 1
def uptoBulkAll {H : Type} : List (DataW H) → Nat
  | [] => 0
  | d :: r => uptoBulk d + uptoBulkAll r
def uptoBulkEntries {H : Type} : List (Lit × DataW H) → Nat
  | [] => 0
  | x :: r => uptoBulkEntry x + uptoBulkEntries r
def uptoBulkEntry {H : Type} : Lit × DataW H → Nat
  | (.string bytes, d) => bytes.length + uptoBulk d + 1
  | (_, d) => uptoBulk d + 1
 end
def uptoSmall : (H : Type) → List (DataW H) → Bool := fun _ ds => decide (uptoBulkAll ds ≤ 1048576)
def OpenSpec.upto (s : _root_.Go.ChangeSpec) : _root_.Go.OpenSpec := { _root_.Go.OpenSpec.ofChange s with cond := some uptoSmall }

/-- 'laws.FnExactFormatRelation', WHERE WHAT IT READS IS OF BULK AT MOST 1048576: true; the input reads as it did. -/
def fnExactFormatRelationUptoRow : OpenClaim := { program := "ythkbmfpgdidfhaadoor", sum := "0bdbbed90efb9ccf60f053232259016891dd7dab03056cacab288eca0c1a6f99", func := "loop.example/g01918/laws.FnExactFormatRelation", spec := "fnExactFormatRelation", named := ["internal/strconv.uint64pow10", "math/bits.deBruijn32tab", "math/bits.deBruijn64tab"], apart := false, laid := [("math/bits.deBruijn32tab", laid_math_bits_deBruijn32tab), ("math/bits.deBruijn64tab", laid_math_bits_deBruijn64tab), ("internal/strconv.uint64pow10", laid_internal_strconv_uint64pow10)], narrowed := true }
def FnExactFormatRelationUptoSaid : Prop := fnExactFormatRelationUptoRow.holds Tryd.pinned (OpenSpec.upto fnExactFormatRelationSpec)

/-- 'laws.FnExactParseRelation', WHERE WHAT IT READS IS OF BULK AT MOST 1048576: true; the input reads as it did. -/
def fnExactParseRelationUptoRow : OpenClaim := { program := "ythkbmfpgdidfhaadoor", sum := "0bdbbed90efb9ccf60f053232259016891dd7dab03056cacab288eca0c1a6f99", func := "loop.example/g01918/laws.FnExactParseRelation", spec := "fnExactParseRelation", named := ["internal/strconv.uint64pow10", "math/bits.deBruijn32tab", "math/bits.deBruijn64tab"], apart := false, laid := [("math/bits.deBruijn32tab", laid_math_bits_deBruijn32tab), ("math/bits.deBruijn64tab", laid_math_bits_deBruijn64tab), ("internal/strconv.uint64pow10", laid_internal_strconv_uint64pow10)], narrowed := true }
def FnExactParseRelationUptoSaid : Prop := fnExactParseRelationUptoRow.holds Tryd.pinned (OpenSpec.upto fnExactParseRelationSpec)

/-- 'laws.FnExactFormatTerm', WHERE WHAT IT READS IS OF BULK AT MOST 1048576: true; the input reads as it did. -/
def fnExactFormatTermUptoRow : OpenClaim := { program := "ythkbmfpgdidfhaadoor", sum := "0bdbbed90efb9ccf60f053232259016891dd7dab03056cacab288eca0c1a6f99", func := "loop.example/g01918/laws.FnExactFormatTerm", spec := "fnExactFormatTerm", named := ["internal/strconv.uint64pow10", "math/bits.deBruijn32tab", "math/bits.deBruijn64tab"], apart := false, laid := [("math/bits.deBruijn32tab", laid_math_bits_deBruijn32tab), ("math/bits.deBruijn64tab", laid_math_bits_deBruijn64tab), ("internal/strconv.uint64pow10", laid_internal_strconv_uint64pow10)], narrowed := true }
def FnExactFormatTermUptoSaid : Prop := fnExactFormatTermUptoRow.holds Tryd.pinned (OpenSpec.upto fnExactFormatTermSpec)

/-- 'laws.FnExactParseTerm', WHERE WHAT IT READS IS OF BULK AT MOST 1048576: true; the input reads as it did. -/
def fnExactParseTermUptoRow : OpenClaim := { program := "ythkbmfpgdidfhaadoor", sum := "0bdbbed90efb9ccf60f053232259016891dd7dab03056cacab288eca0c1a6f99", func := "loop.example/g01918/laws.FnExactParseTerm", spec := "fnExactParseTerm", inPlace := ["internal/bytealg.IndexByteString", "internal/bytealg.IndexString"], named := ["internal/bytealg.MaxLen", "strconv.ErrSyntax", "strconv.ErrRange", "internal/strconv.uint64pow10", "math/bits.deBruijn32tab", "math/bits.deBruijn64tab"], apart := false, laid := [("math/bits.deBruijn32tab", laid_math_bits_deBruijn32tab), ("math/bits.deBruijn64tab", laid_math_bits_deBruijn64tab), ("internal/strconv.uint64pow10", laid_internal_strconv_uint64pow10), ("strconv.ErrRange", laid_strconv_ErrRange), ("strconv.ErrSyntax", laid_strconv_ErrSyntax)], narrowed := true }
def FnExactParseTermUptoSaid : Prop := fnExactParseTermUptoRow.holds Tryd.pinned (OpenSpec.upto fnExactParseTermSpec)

/-- 'laws.FnExactFormatFraction', WHERE WHAT IT READS IS OF BULK AT MOST 1048576: true; the input reads as it did. -/
def fnExactFormatFractionUptoRow : OpenClaim := { program := "ythkbmfpgdidfhaadoor", sum := "0bdbbed90efb9ccf60f053232259016891dd7dab03056cacab288eca0c1a6f99", func := "loop.example/g01918/laws.FnExactFormatFraction", spec := "fnExactFormatFraction", named := ["internal/strconv.uint64pow10", "math/bits.deBruijn32tab", "math/bits.deBruijn64tab"], apart := false, laid := [("math/bits.deBruijn32tab", laid_math_bits_deBruijn32tab), ("math/bits.deBruijn64tab", laid_math_bits_deBruijn64tab), ("internal/strconv.uint64pow10", laid_internal_strconv_uint64pow10)], narrowed := true }
def FnExactFormatFractionUptoSaid : Prop := fnExactFormatFractionUptoRow.holds Tryd.pinned (OpenSpec.upto fnExactFormatFractionSpec)

/-- 'laws.FnExactFormatClause', WHERE WHAT IT READS IS OF BULK AT MOST 1048576: true; the input reads as it did. -/
def fnExactFormatClauseUptoRow : OpenClaim := { program := "ythkbmfpgdidfhaadoor", sum := "0bdbbed90efb9ccf60f053232259016891dd7dab03056cacab288eca0c1a6f99", func := "loop.example/g01918/laws.FnExactFormatClause", spec := "fnExactFormatClause", inPlace := ["internal/abi.NoEscape", "internal/bytealg.MakeNoZero"], unfollowed := true, recurses := true, named := ["internal/strconv.uint64pow10", "math/bits.deBruijn32tab", "math/bits.deBruijn64tab"], apart := false, laid := [("math/bits.deBruijn32tab", laid_math_bits_deBruijn32tab), ("math/bits.deBruijn64tab", laid_math_bits_deBruijn64tab), ("internal/strconv.uint64pow10", laid_internal_strconv_uint64pow10)], narrowed := true }
def FnExactFormatClauseUptoSaid : Prop := fnExactFormatClauseUptoRow.holds Tryd.pinned (OpenSpec.upto fnExactFormatClauseSpec)

/-- 'laws.FnExactFormatConstraint', WHERE WHAT IT READS IS OF BULK AT MOST 1048576: true; the input reads as it did. -/
def fnExactFormatConstraintUptoRow : OpenClaim := { program := "ythkbmfpgdidfhaadoor", sum := "0bdbbed90efb9ccf60f053232259016891dd7dab03056cacab288eca0c1a6f99", func := "loop.example/g01918/laws.FnExactFormatConstraint", spec := "fnExactFormatConstraint", inPlace := ["internal/bytealg.abigen_runtime_cmpstring"], unfollowed := true, recurses := true, named := ["internal/strconv.uint64pow10", "math/bits.deBruijn32tab", "math/bits.deBruijn64tab"], apart := false, laid := [("math/bits.deBruijn32tab", laid_math_bits_deBruijn32tab), ("math/bits.deBruijn64tab", laid_math_bits_deBruijn64tab), ("internal/strconv.uint64pow10", laid_internal_strconv_uint64pow10)], narrowed := true }
def FnExactFormatConstraintUptoSaid : Prop := fnExactFormatConstraintUptoRow.holds Tryd.pinned (OpenSpec.upto fnExactFormatConstraintSpec)

/-- 'laws.FnExactFormatRows', WHERE WHAT IT READS IS OF BULK AT MOST 1048576: true; the input reads as it did. -/
def fnExactFormatRowsUptoRow : OpenClaim := { program := "ythkbmfpgdidfhaadoor", sum := "0bdbbed90efb9ccf60f053232259016891dd7dab03056cacab288eca0c1a6f99", func := "loop.example/g01918/laws.FnExactFormatRows", spec := "fnExactFormatRows", inPlace := ["internal/abi.NoEscape", "internal/bytealg.MakeNoZero"], unfollowed := true, recurses := true, named := ["internal/strconv.uint64pow10", "math/bits.deBruijn32tab", "math/bits.deBruijn64tab"], apart := false, laid := [("math/bits.deBruijn32tab", laid_math_bits_deBruijn32tab), ("math/bits.deBruijn64tab", laid_math_bits_deBruijn64tab), ("internal/strconv.uint64pow10", laid_internal_strconv_uint64pow10)], narrowed := true }
def FnExactFormatRowsUptoSaid : Prop := fnExactFormatRowsUptoRow.holds Tryd.pinned (OpenSpec.upto fnExactFormatRowsSpec)

/-- 'laws.FnExactFormatClauses', WHERE WHAT IT READS IS OF BULK AT MOST 1048576: true; the input reads as it did. -/
def fnExactFormatClausesUptoRow : OpenClaim := { program := "ythkbmfpgdidfhaadoor", sum := "0bdbbed90efb9ccf60f053232259016891dd7dab03056cacab288eca0c1a6f99", func := "loop.example/g01918/laws.FnExactFormatClauses", spec := "fnExactFormatClauses", inPlace := ["internal/abi.NoEscape", "internal/bytealg.MakeNoZero"], unfollowed := true, recurses := true, named := ["internal/strconv.uint64pow10", "math/bits.deBruijn32tab", "math/bits.deBruijn64tab"], apart := false, laid := [("math/bits.deBruijn32tab", laid_math_bits_deBruijn32tab), ("math/bits.deBruijn64tab", laid_math_bits_deBruijn64tab), ("internal/strconv.uint64pow10", laid_internal_strconv_uint64pow10)], narrowed := true }
def FnExactFormatClausesUptoSaid : Prop := fnExactFormatClausesUptoRow.holds Tryd.pinned (OpenSpec.upto fnExactFormatClausesSpec)

/-- 'laws.FnExactFormatGroups', WHERE WHAT IT READS IS OF BULK AT MOST 1048576: true; the input reads as it did. -/
def fnExactFormatGroupsUptoRow : OpenClaim := { program := "ythkbmfpgdidfhaadoor", sum := "0bdbbed90efb9ccf60f053232259016891dd7dab03056cacab288eca0c1a6f99", func := "loop.example/g01918/laws.FnExactFormatGroups", spec := "fnExactFormatGroups", inPlace := ["internal/abi.NoEscape", "internal/bytealg.MakeNoZero"], unfollowed := true, recurses := true, named := ["internal/strconv.uint64pow10", "math/bits.deBruijn32tab", "math/bits.deBruijn64tab"], apart := false, laid := [("math/bits.deBruijn32tab", laid_math_bits_deBruijn32tab), ("math/bits.deBruijn64tab", laid_math_bits_deBruijn64tab), ("internal/strconv.uint64pow10", laid_internal_strconv_uint64pow10)], narrowed := true }
def FnExactFormatGroupsUptoSaid : Prop := fnExactFormatGroupsUptoRow.holds Tryd.pinned (OpenSpec.upto fnExactFormatGroupsSpec)

/-- 'laws.FnExactFormatFact', WHERE WHAT IT READS IS OF BULK AT MOST 1048576: true; the input reads as it did. -/
def fnExactFormatFactUptoRow : OpenClaim := { program := "ythkbmfpgdidfhaadoor", sum := "0bdbbed90efb9ccf60f053232259016891dd7dab03056cacab288eca0c1a6f99", func := "loop.example/g01918/laws.FnExactFormatFact", spec := "fnExactFormatFact", inPlace := ["internal/bytealg.abigen_runtime_cmpstring", "internal/abi.NoEscape"], unfollowed := true, recurses := true, named := ["internal/strconv.uint64pow10", "math/bits.deBruijn32tab", "math/bits.deBruijn64tab"], apart := false, laid := [("math/bits.deBruijn32tab", laid_math_bits_deBruijn32tab), ("math/bits.deBruijn64tab", laid_math_bits_deBruijn64tab), ("internal/strconv.uint64pow10", laid_internal_strconv_uint64pow10)], narrowed := true }
def FnExactFormatFactUptoSaid : Prop := fnExactFormatFactUptoRow.holds Tryd.pinned (OpenSpec.upto fnExactFormatFactSpec)

/-- 'laws.FnExactFormatEdit', WHERE WHAT IT READS IS OF BULK AT MOST 1048576: true; the input reads as it did. -/
def fnExactFormatEditUptoRow : OpenClaim := { program := "ythkbmfpgdidfhaadoor", sum := "0bdbbed90efb9ccf60f053232259016891dd7dab03056cacab288eca0c1a6f99", func := "loop.example/g01918/laws.FnExactFormatEdit", spec := "fnExactFormatEdit", inPlace := ["internal/bytealg.abigen_runtime_cmpstring", "internal/abi.NoEscape"], unfollowed := true, recurses := true, named := ["internal/strconv.uint64pow10", "math/bits.deBruijn32tab", "math/bits.deBruijn64tab"], apart := false, laid := [("math/bits.deBruijn32tab", laid_math_bits_deBruijn32tab), ("math/bits.deBruijn64tab", laid_math_bits_deBruijn64tab), ("internal/strconv.uint64pow10", laid_internal_strconv_uint64pow10)], narrowed := true }
def FnExactFormatEditUptoSaid : Prop := fnExactFormatEditUptoRow.holds Tryd.pinned (OpenSpec.upto fnExactFormatEditSpec)

end Rows
end Go.Proofs.YthkbmfpgdidfhaaDoor
