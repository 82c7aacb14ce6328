/-
  DERIVED. GIVEN WITH THE SEED: THE CARDS: each row of YtlhdagpimcafaaaDoorRows.lean that lists a variable, with what it lists TIED to the program's text (the seventh form; the later family's looks); each row that meets fmt, with fmt's text TOLD by the authors' own Lean function (tested against real Go, not proved from fmt's source: count such statements apart). THE CARD IS WHAT COUNTS. Prove the row's statement (the work); the ties are given (YtlhdagpimcafaaaDoorTie.lean); close each card by the builder's one call (the guide's Derived/Test/ToyasCard.lean, 'card_holds'). Laid BY PROGRAM, IN A SANDBOX (cutbox-door.mjs). By AI agents, Wed Nov 11 2026. No macro, syntax, notation, axiom, sorry.
-/
import Derived.Test.YtlhdagpimcafaaaDoorRows
import GoSem.ClaimSeven
namespace Go.Proofs.YtlhdagpimcafaaaDoor
namespace Rows

/-- THE TIED CARD OF 'laws.FnExactUnsatCore'. -/
def fnExactUnsatCoreCard : Claim7 := { stood := { row := fnExactUnsatCoreRow, standIns := [], harness := (true, "1967c295f93bfcb76cb49df5045f2ae29daec57ea6705b2af8b938f543983f5f"), looks := false }, kinds := [], alts := [], laidByText := true, laidKinds := [.data, .data], laidTests := true, laidLooks := .later }
def FnExactUnsatCoreCardSaid : Prop := Claim7.holds Tryd.pinned (.plain (OpenSpec.ofChange fnExactUnsatCoreSpec)) fnExactUnsatCoreCard

/-- THE TIED CARD OF 'laws.FnExactTrimProof'. -/
def fnExactTrimProofCard : Claim7 := { stood := { row := fnExactTrimProofRow, standIns := [], harness := (true, "1967c295f93bfcb76cb49df5045f2ae29daec57ea6705b2af8b938f543983f5f"), looks := false }, kinds := [], alts := [], laidByText := true, laidKinds := [.data, .data], laidTests := true, laidLooks := .later }
def FnExactTrimProofCardSaid : Prop := Claim7.holds Tryd.pinned (.plain (OpenSpec.ofChange fnExactTrimProofSpec)) fnExactTrimProofCard

/-- THE SECOND FORM's CARD OF 'laws.FnExactUnsatCore'. -/
def fnExactUnsatCoreUptoCard : Claim7 := { stood := { row := fnExactUnsatCoreUptoRow, standIns := [], harness := (true, "1967c295f93bfcb76cb49df5045f2ae29daec57ea6705b2af8b938f543983f5f"), looks := false }, kinds := [], alts := [], laidByText := true, laidKinds := [.data, .data], laidTests := true, laidLooks := .later }
def FnExactUnsatCoreUptoCardSaid : Prop := Claim7.holds Tryd.pinned (.plain (OpenSpec.upto fnExactUnsatCoreSpec)) fnExactUnsatCoreUptoCard

/-- THE SECOND FORM's CARD OF 'laws.FnExactTrimProof'. -/
def fnExactTrimProofUptoCard : Claim7 := { stood := { row := fnExactTrimProofUptoRow, standIns := [], harness := (true, "1967c295f93bfcb76cb49df5045f2ae29daec57ea6705b2af8b938f543983f5f"), looks := false }, kinds := [], alts := [], laidByText := true, laidKinds := [.data, .data], laidTests := true, laidLooks := .later }
def FnExactTrimProofUptoCardSaid : Prop := Claim7.holds Tryd.pinned (.plain (OpenSpec.upto fnExactTrimProofSpec)) fnExactTrimProofUptoCard
end Rows
end Go.Proofs.YtlhdagpimcafaaaDoor
