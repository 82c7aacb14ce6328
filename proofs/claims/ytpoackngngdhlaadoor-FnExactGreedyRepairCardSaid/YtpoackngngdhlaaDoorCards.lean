/-
  DERIVED. GIVEN WITH THE SEED: THE CARDS: each row of YtpoackngngdhlaaDoorRows.lean that lists a variable, with what it lists TIED to the program's text (the seventh form; the later family's looks); each row that meets fmt, with fmt's text TOLD by the authors' own Lean function (tested against real Go, not proved from fmt's source: count such statements apart). THE CARD IS WHAT COUNTS. Prove the row's statement (the work); the ties are given (YtpoackngngdhlaaDoorTie.lean); close each card by the builder's one call (the guide's Derived/Test/ToyasCard.lean, 'card_holds'). Laid BY PROGRAM, IN A SANDBOX (cutbox-door.mjs). By AI agents, Wed Nov 11 2026. No macro, syntax, notation, axiom, sorry.
-/
import Derived.Test.YtpoackngngdhlaaDoorRows
import GoSem.ClaimSeven
namespace Go.Proofs.YtpoackngngdhlaaDoor
namespace Rows

/-- THE TIED CARD OF 'laws.FnExactIsParetoOptimal'. -/
def fnExactIsParetoOptimalCard : Claim7 := { stood := { row := fnExactIsParetoOptimalRow, standIns := [], harness := (true, "3f03dd3f2ae5ba509e77098d962f1bc1c07deaadd1af0601311d31167814d524"), looks := false }, kinds := [], alts := [], laidByText := true, laidKinds := [.data, .data], laidTests := true, laidLooks := .later }
def FnExactIsParetoOptimalCardSaid : Prop := Claim7.holds Tryd.pinned (.plain (OpenSpec.ofChange fnExactIsParetoOptimalSpec)) fnExactIsParetoOptimalCard

/-- THE TIED CARD OF 'laws.FnExactGreedyRepair'. -/
def fnExactGreedyRepairCard : Claim7 := { stood := { row := fnExactGreedyRepairRow, standIns := [], harness := (true, "3f03dd3f2ae5ba509e77098d962f1bc1c07deaadd1af0601311d31167814d524"), looks := false }, kinds := [], alts := [], laidByText := true, laidKinds := [.data, .data], laidTests := true, laidLooks := .later }
def FnExactGreedyRepairCardSaid : Prop := Claim7.holds Tryd.pinned (.plain (OpenSpec.ofChange fnExactGreedyRepairSpec)) fnExactGreedyRepairCard

/-- THE SECOND FORM's CARD OF 'laws.FnExactIsParetoOptimal'. -/
def fnExactIsParetoOptimalUptoCard : Claim7 := { stood := { row := fnExactIsParetoOptimalUptoRow, standIns := [], harness := (true, "3f03dd3f2ae5ba509e77098d962f1bc1c07deaadd1af0601311d31167814d524"), looks := false }, kinds := [], alts := [], laidByText := true, laidKinds := [.data, .data], laidTests := true, laidLooks := .later }
def FnExactIsParetoOptimalUptoCardSaid : Prop := Claim7.holds Tryd.pinned (.plain (OpenSpec.upto fnExactIsParetoOptimalSpec)) fnExactIsParetoOptimalUptoCard

/-- THE SECOND FORM's CARD OF 'laws.FnExactGreedyRepair'. -/
def fnExactGreedyRepairUptoCard : Claim7 := { stood := { row := fnExactGreedyRepairUptoRow, standIns := [], harness := (true, "3f03dd3f2ae5ba509e77098d962f1bc1c07deaadd1af0601311d31167814d524"), looks := false }, kinds := [], alts := [], laidByText := true, laidKinds := [.data, .data], laidTests := true, laidLooks := .later }
def FnExactGreedyRepairUptoCardSaid : Prop := Claim7.holds Tryd.pinned (.plain (OpenSpec.upto fnExactGreedyRepairSpec)) fnExactGreedyRepairUptoCard
end Rows
end Go.Proofs.YtpoackngngdhlaaDoor
