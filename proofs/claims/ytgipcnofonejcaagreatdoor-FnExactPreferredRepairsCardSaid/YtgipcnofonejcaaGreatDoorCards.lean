/-
  DERIVED. GIVEN WITH THE SEED: THE CARDS: each row of YtgipcnofonejcaaGreatDoorRows.lean that lists a variable, with what it lists TIED to the program's text (the seventh form; the later family's looks); each row that meets fmt, with fmt's text TOLD by the authors' own Lean function (tested against real Go, not proved from fmt's source: count such statements apart). THE CARD IS WHAT COUNTS. Prove the row's statement (the work); the ties are given (YtgipcnofonejcaaGreatDoorTie.lean); close each card by the builder's one call (the guide's Derived/Test/ToyasCard.lean, 'card_holds'). Laid BY PROGRAM, IN A SANDBOX (cutbox-door.mjs). By AI agents, Wed Nov 11 2026. No macro, syntax, notation, axiom, sorry.
-/
import Derived.Test.YtgipcnofonejcaaGreatDoorRows
import GoSem.ClaimSeven
namespace Go.Proofs.YtgipcnofonejcaaGreatDoor
namespace Rows

/-- THE TIED CARD OF 'laws.FnExactCardinalityRepairs'. -/
def fnExactCardinalityRepairsCard : Claim7 := { stood := { row := fnExactCardinalityRepairsRow, standIns := [], harness := (true, "9ba85e32e22f9e1382ebfc8d1e5c6ed4c5eea27b9a297ab6e863560e81751c70"), looks := false }, kinds := [], alts := [], laidByText := true, laidKinds := [.data, .data], laidTests := true, laidLooks := .later }
def FnExactCardinalityRepairsCardSaid : Prop := Claim7.holds Tryz.pinned (.plain (OpenSpec.ofChange fnExactCardinalityRepairsSpec)) fnExactCardinalityRepairsCard

/-- THE TIED CARD OF 'laws.FnExactPreferredRepairs'. -/
def fnExactPreferredRepairsCard : Claim7 := { stood := { row := fnExactPreferredRepairsRow, standIns := [], harness := (true, "9ba85e32e22f9e1382ebfc8d1e5c6ed4c5eea27b9a297ab6e863560e81751c70"), looks := false }, kinds := [], alts := [], laidByText := true, laidKinds := [.data, .data], laidTests := true, laidLooks := .later }
def FnExactPreferredRepairsCardSaid : Prop := Claim7.holds Tryz.pinned (.plain (OpenSpec.ofChange fnExactPreferredRepairsSpec)) fnExactPreferredRepairsCard

/-- THE SECOND FORM's CARD OF 'laws.FnExactCardinalityRepairs'. -/
def fnExactCardinalityRepairsUptoCard : Claim7 := { stood := { row := fnExactCardinalityRepairsUptoRow, standIns := [], harness := (true, "9ba85e32e22f9e1382ebfc8d1e5c6ed4c5eea27b9a297ab6e863560e81751c70"), looks := false }, kinds := [], alts := [], laidByText := true, laidKinds := [.data, .data], laidTests := true, laidLooks := .later }
def FnExactCardinalityRepairsUptoCardSaid : Prop := Claim7.holds Tryz.pinned (.plain (OpenSpec.upto fnExactCardinalityRepairsSpec)) fnExactCardinalityRepairsUptoCard

/-- THE SECOND FORM's CARD OF 'laws.FnExactPreferredRepairs'. -/
def fnExactPreferredRepairsUptoCard : Claim7 := { stood := { row := fnExactPreferredRepairsUptoRow, standIns := [], harness := (true, "9ba85e32e22f9e1382ebfc8d1e5c6ed4c5eea27b9a297ab6e863560e81751c70"), looks := false }, kinds := [], alts := [], laidByText := true, laidKinds := [.data, .data], laidTests := true, laidLooks := .later }
def FnExactPreferredRepairsUptoCardSaid : Prop := Claim7.holds Tryz.pinned (.plain (OpenSpec.upto fnExactPreferredRepairsSpec)) fnExactPreferredRepairsUptoCard
end Rows
end Go.Proofs.YtgipcnofonejcaaGreatDoor
