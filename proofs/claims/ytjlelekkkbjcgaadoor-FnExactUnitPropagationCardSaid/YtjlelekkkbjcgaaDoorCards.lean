/-
  DERIVED. GIVEN WITH THE SEED: THE CARDS: each row of YtjlelekkkbjcgaaDoorRows.lean that lists a variable, with what it lists TIED to the program's text (the seventh form; the later family's looks); each row that meets fmt, with fmt's text TOLD by the authors' own Lean function (tested against real Go, not proved from fmt's source: count such statements apart). THE CARD IS WHAT COUNTS. Prove the row's statement (the work); the ties are given (YtjlelekkkbjcgaaDoorTie.lean); close each card by the builder's one call (the guide's Derived/Test/ToyasCard.lean, 'card_holds'). Laid BY PROGRAM, IN A SANDBOX (cutbox-door.mjs). By AI agents, Wed Nov 11 2026. No macro, syntax, notation, axiom, sorry.
-/
import Derived.Test.YtjlelekkkbjcgaaDoorRows
import GoSem.ClaimSeven
namespace Go.Proofs.YtjlelekkkbjcgaaDoor
namespace Rows

/-- THE TIED CARD OF 'laws.FnExactUnitPropagation'. -/
def fnExactUnitPropagationCard : Claim7 := { stood := { row := fnExactUnitPropagationRow, standIns := [], harness := (true, "b67ee5b33d05fb90fc58e0df8b74d4ab38f7575d9ab61e583bd9bd044cd4f01c"), looks := false }, kinds := [], alts := [], laidByText := true, laidKinds := [.data, .data], laidTests := true, laidLooks := .later }
def FnExactUnitPropagationCardSaid : Prop := Claim7.holds Tryd.pinned (.plain (OpenSpec.ofChange fnExactUnitPropagationSpec)) fnExactUnitPropagationCard

/-- THE TIED CARD OF 'laws.FnExactIsRUPClause'. -/
def fnExactIsRUPClauseCard : Claim7 := { stood := { row := fnExactIsRUPClauseRow, standIns := [], harness := (true, "b67ee5b33d05fb90fc58e0df8b74d4ab38f7575d9ab61e583bd9bd044cd4f01c"), looks := false }, kinds := [], alts := [], laidByText := true, laidKinds := [.data, .data], laidTests := true, laidLooks := .later }
def FnExactIsRUPClauseCardSaid : Prop := Claim7.holds Tryd.pinned (.plain (OpenSpec.ofChange fnExactIsRUPClauseSpec)) fnExactIsRUPClauseCard

/-- THE TIED CARD OF 'laws.FnExactIsValidProof'. -/
def fnExactIsValidProofCard : Claim7 := { stood := { row := fnExactIsValidProofRow, standIns := [], harness := (true, "b67ee5b33d05fb90fc58e0df8b74d4ab38f7575d9ab61e583bd9bd044cd4f01c"), looks := false }, kinds := [], alts := [], laidByText := true, laidKinds := [.data, .data], laidTests := true, laidLooks := .later }
def FnExactIsValidProofCardSaid : Prop := Claim7.holds Tryd.pinned (.plain (OpenSpec.ofChange fnExactIsValidProofSpec)) fnExactIsValidProofCard

/-- THE SECOND FORM's CARD OF 'laws.FnExactUnitPropagation'. -/
def fnExactUnitPropagationUptoCard : Claim7 := { stood := { row := fnExactUnitPropagationUptoRow, standIns := [], harness := (true, "b67ee5b33d05fb90fc58e0df8b74d4ab38f7575d9ab61e583bd9bd044cd4f01c"), looks := false }, kinds := [], alts := [], laidByText := true, laidKinds := [.data, .data], laidTests := true, laidLooks := .later }
def FnExactUnitPropagationUptoCardSaid : Prop := Claim7.holds Tryd.pinned (.plain (OpenSpec.upto fnExactUnitPropagationSpec)) fnExactUnitPropagationUptoCard

/-- THE SECOND FORM's CARD OF 'laws.FnExactIsRUPClause'. -/
def fnExactIsRUPClauseUptoCard : Claim7 := { stood := { row := fnExactIsRUPClauseUptoRow, standIns := [], harness := (true, "b67ee5b33d05fb90fc58e0df8b74d4ab38f7575d9ab61e583bd9bd044cd4f01c"), looks := false }, kinds := [], alts := [], laidByText := true, laidKinds := [.data, .data], laidTests := true, laidLooks := .later }
def FnExactIsRUPClauseUptoCardSaid : Prop := Claim7.holds Tryd.pinned (.plain (OpenSpec.upto fnExactIsRUPClauseSpec)) fnExactIsRUPClauseUptoCard

/-- THE SECOND FORM's CARD OF 'laws.FnExactIsValidProof'. -/
def fnExactIsValidProofUptoCard : Claim7 := { stood := { row := fnExactIsValidProofUptoRow, standIns := [], harness := (true, "b67ee5b33d05fb90fc58e0df8b74d4ab38f7575d9ab61e583bd9bd044cd4f01c"), looks := false }, kinds := [], alts := [], laidByText := true, laidKinds := [.data, .data], laidTests := true, laidLooks := .later }
def FnExactIsValidProofUptoCardSaid : Prop := Claim7.holds Tryd.pinned (.plain (OpenSpec.upto fnExactIsValidProofSpec)) fnExactIsValidProofUptoCard
end Rows
end Go.Proofs.YtjlelekkkbjcgaaDoor
