/- The readings of the laws' own types, as a row reads them: constraints in a slice. -/
import Derived.Test.YtpfljebndnfpmaaRowTwo
namespace Go.Proofs.Ytpfljebndnfpmaa
open Go.RowKit Go.Deep
set_option linter.unusedVariables false
set_option maxRecDepth 100000
section
variable {H : Type} {enc : TypeId × Value → H} {w : World} {base : Nat} {spare : Nat → Bool} {held : Bool}
theorem row_DenialConstraintS {r0 : Reach} {b0 : Nat} {v : Value} {d : DataW H} {ps : List MemPlace} (hval : Value.okWide Try.prog w r0 b0 26 v) (h : DataW.Trod enc Try.prog w base spare held 26 v d ps) : ∃ a cap l, v = .slice a l.length cap ∧ At (cSlice cDcn) w l [.slice a l.length cap] := row_slice Try.underlying26 Try.cells_DenialConstraint (by decide) (fun _ _ _ h => rd_DenialConstraint h) hval h
end
end Go.Proofs.Ytpfljebndnfpmaa

