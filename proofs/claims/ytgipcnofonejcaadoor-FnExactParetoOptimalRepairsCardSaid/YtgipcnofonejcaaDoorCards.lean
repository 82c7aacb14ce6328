/-
  DERIVED. GIVEN WITH THE SEED: THE CARDS: each row of YtgipcnofonejcaaDoorRows.lean that lists a variable, with what it lists TIED to the program's text (the seventh form; the later family's looks); each row that meets fmt, with fmt's text TOLD by the authors' own Lean function (tested against real Go, not proved from fmt's source: count such statements apart). THE CARD IS WHAT COUNTS. Prove the row's statement (the work); the ties are given (YtgipcnofonejcaaDoorTie.lean); close each card by the builder's one call (the guide's Derived/Test/ToyasCard.lean, 'card_holds'). Laid BY PROGRAM, IN A SANDBOX (cutbox-door.mjs). By AI agents, Wed Nov 11 2026. No macro, syntax, notation, axiom, sorry.
-/
import Derived.Test.YtgipcnofonejcaaDoorRows
import GoSem.ClaimSeven
namespace Go.Proofs.YtgipcnofonejcaaDoor
namespace Rows

/-- THE TIED CARD OF 'laws.FnExactSubsetRepairs'. -/
def fnExactSubsetRepairsCard : Claim7 := { stood := { row := fnExactSubsetRepairsRow, standIns := [], harness := (true, "d619ab3ab529adeb51bbe713605c737a553820f1e95afcfd5fa3ad6f6ea0e796"), looks := false }, kinds := [], alts := [], laidByText := true, laidKinds := [.data, .data], laidTests := true, laidLooks := .later }
def FnExactSubsetRepairsCardSaid : Prop := Claim7.holds Tryd.pinned (.plain (OpenSpec.ofChange fnExactSubsetRepairsSpec)) fnExactSubsetRepairsCard

/-- THE TIED CARD OF 'laws.FnExactDeletedFactCount'. -/
def fnExactDeletedFactCountCard : Claim7 := { stood := { row := fnExactDeletedFactCountRow, standIns := [], harness := (true, "d619ab3ab529adeb51bbe713605c737a553820f1e95afcfd5fa3ad6f6ea0e796"), looks := false }, kinds := [], alts := [], laidByText := true, laidKinds := [.data, .data], laidTests := true, laidLooks := .later }
def FnExactDeletedFactCountCardSaid : Prop := Claim7.holds Tryd.pinned (.plain (OpenSpec.ofChange fnExactDeletedFactCountSpec)) fnExactDeletedFactCountCard

/-- THE TIED CARD OF 'laws.FnExactRepairFromFacts'. -/
def fnExactRepairFromFactsCard : Claim7 := { stood := { row := fnExactRepairFromFactsRow, standIns := [], harness := (true, "d619ab3ab529adeb51bbe713605c737a553820f1e95afcfd5fa3ad6f6ea0e796"), looks := false }, kinds := [], alts := [], laidByText := true, laidKinds := [.data, .data], laidTests := true, laidLooks := .later }
def FnExactRepairFromFactsCardSaid : Prop := Claim7.holds Tryd.pinned (.plain (OpenSpec.ofChange fnExactRepairFromFactsSpec)) fnExactRepairFromFactsCard

/-- THE TIED CARD OF 'laws.FnExactParetoOptimalRepairs'. -/
def fnExactParetoOptimalRepairsCard : Claim7 := { stood := { row := fnExactParetoOptimalRepairsRow, standIns := [], harness := (true, "d619ab3ab529adeb51bbe713605c737a553820f1e95afcfd5fa3ad6f6ea0e796"), looks := false }, kinds := [], alts := [], laidByText := true, laidKinds := [.data, .data], laidTests := true, laidLooks := .later }
def FnExactParetoOptimalRepairsCardSaid : Prop := Claim7.holds Tryd.pinned (.plain (OpenSpec.ofChange fnExactParetoOptimalRepairsSpec)) fnExactParetoOptimalRepairsCard

/-- THE SECOND FORM's CARD OF 'laws.FnExactSubsetRepairs'. -/
def fnExactSubsetRepairsUptoCard : Claim7 := { stood := { row := fnExactSubsetRepairsUptoRow, standIns := [], harness := (true, "d619ab3ab529adeb51bbe713605c737a553820f1e95afcfd5fa3ad6f6ea0e796"), looks := false }, kinds := [], alts := [], laidByText := true, laidKinds := [.data, .data], laidTests := true, laidLooks := .later }
def FnExactSubsetRepairsUptoCardSaid : Prop := Claim7.holds Tryd.pinned (.plain (OpenSpec.upto fnExactSubsetRepairsSpec)) fnExactSubsetRepairsUptoCard

/-- THE SECOND FORM's CARD OF 'laws.FnExactDeletedFactCount'. -/
def fnExactDeletedFactCountUptoCard : Claim7 := { stood := { row := fnExactDeletedFactCountUptoRow, standIns := [], harness := (true, "d619ab3ab529adeb51bbe713605c737a553820f1e95afcfd5fa3ad6f6ea0e796"), looks := false }, kinds := [], alts := [], laidByText := true, laidKinds := [.data, .data], laidTests := true, laidLooks := .later }
def FnExactDeletedFactCountUptoCardSaid : Prop := Claim7.holds Tryd.pinned (.plain (OpenSpec.upto fnExactDeletedFactCountSpec)) fnExactDeletedFactCountUptoCard

/-- THE SECOND FORM's CARD OF 'laws.FnExactRepairFromFacts'. -/
def fnExactRepairFromFactsUptoCard : Claim7 := { stood := { row := fnExactRepairFromFactsUptoRow, standIns := [], harness := (true, "d619ab3ab529adeb51bbe713605c737a553820f1e95afcfd5fa3ad6f6ea0e796"), looks := false }, kinds := [], alts := [], laidByText := true, laidKinds := [.data, .data], laidTests := true, laidLooks := .later }
def FnExactRepairFromFactsUptoCardSaid : Prop := Claim7.holds Tryd.pinned (.plain (OpenSpec.upto fnExactRepairFromFactsSpec)) fnExactRepairFromFactsUptoCard

/-- THE SECOND FORM's CARD OF 'laws.FnExactParetoOptimalRepairs'. -/
def fnExactParetoOptimalRepairsUptoCard : Claim7 := { stood := { row := fnExactParetoOptimalRepairsUptoRow, standIns := [], harness := (true, "d619ab3ab529adeb51bbe713605c737a553820f1e95afcfd5fa3ad6f6ea0e796"), looks := false }, kinds := [], alts := [], laidByText := true, laidKinds := [.data, .data], laidTests := true, laidLooks := .later }
def FnExactParetoOptimalRepairsUptoCardSaid : Prop := Claim7.holds Tryd.pinned (.plain (OpenSpec.upto fnExactParetoOptimalRepairsSpec)) fnExactParetoOptimalRepairsUptoCard
end Rows
end Go.Proofs.YtgipcnofonejcaaDoor
