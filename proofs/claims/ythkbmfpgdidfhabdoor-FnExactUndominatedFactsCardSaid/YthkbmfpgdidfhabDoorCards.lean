/-
  DERIVED. GIVEN WITH THE SEED: THE CARDS: each row of YthkbmfpgdidfhabDoorRows.lean that lists a variable, with what it lists TIED to the program's text (the seventh form; the later family's looks); each row that meets fmt, with fmt's text TOLD by the authors' own Lean function (tested against real Go, not proved from fmt's source: count such statements apart). THE CARD IS WHAT COUNTS. Prove the row's statement (the work); the ties are given (YthkbmfpgdidfhabDoorTie.lean); close each card by the builder's one call (the guide's Derived/Test/ToyasCard.lean, 'card_holds'). Laid BY PROGRAM, IN A SANDBOX (cutbox-door.mjs). By AI agents, Wed Nov 11 2026. No macro, syntax, notation, axiom, sorry.
-/
import Derived.Test.YthkbmfpgdidfhabDoorRows
import GoSem.ClaimSeven
namespace Go.Proofs.YthkbmfpgdidfhabDoor
namespace Rows

/-- THE TIED CARD OF 'laws.FnExactExtendToMaximal'. -/
def fnExactExtendToMaximalCard : Claim7 := { stood := { row := fnExactExtendToMaximalRow, standIns := [], harness := (true, "69cf77ae79d9f1c23aec5a659ed2478d00843e5fc13dab8f769f46e545001c3b"), looks := false }, kinds := [], alts := [], laidByText := true, laidKinds := [.data, .data], laidTests := true, laidLooks := .later }
def FnExactExtendToMaximalCardSaid : Prop := Claim7.holds Tryd.pinned (.plain (OpenSpec.ofChange fnExactExtendToMaximalSpec)) fnExactExtendToMaximalCard

/-- THE TIED CARD OF 'laws.FnExactIsMaximalIndependent'. -/
def fnExactIsMaximalIndependentCard : Claim7 := { stood := { row := fnExactIsMaximalIndependentRow, standIns := [], harness := (true, "69cf77ae79d9f1c23aec5a659ed2478d00843e5fc13dab8f769f46e545001c3b"), looks := false }, kinds := [], alts := [], laidByText := true, laidKinds := [.data, .data], laidTests := true, laidLooks := .later }
def FnExactIsMaximalIndependentCardSaid : Prop := Claim7.holds Tryd.pinned (.plain (OpenSpec.ofChange fnExactIsMaximalIndependentSpec)) fnExactIsMaximalIndependentCard

/-- THE TIED CARD OF 'laws.FnExactIsValidPreference'. -/
def fnExactIsValidPreferenceCard : Claim7 := { stood := { row := fnExactIsValidPreferenceRow, standIns := [], harness := (true, "69cf77ae79d9f1c23aec5a659ed2478d00843e5fc13dab8f769f46e545001c3b"), looks := false }, kinds := [], alts := [], laidByText := true, laidKinds := [.data, .data], laidTests := true, laidLooks := .later }
def FnExactIsValidPreferenceCardSaid : Prop := Claim7.holds Tryd.pinned (.plain (OpenSpec.ofChange fnExactIsValidPreferenceSpec)) fnExactIsValidPreferenceCard

/-- THE TIED CARD OF 'laws.FnExactUndominatedFacts'. -/
def fnExactUndominatedFactsCard : Claim7 := { stood := { row := fnExactUndominatedFactsRow, standIns := [], harness := (true, "69cf77ae79d9f1c23aec5a659ed2478d00843e5fc13dab8f769f46e545001c3b"), looks := false }, kinds := [], alts := [], laidByText := true, laidKinds := [.data, .data], laidTests := true, laidLooks := .later }
def FnExactUndominatedFactsCardSaid : Prop := Claim7.holds Tryd.pinned (.plain (OpenSpec.ofChange fnExactUndominatedFactsSpec)) fnExactUndominatedFactsCard

/-- THE SECOND FORM's CARD OF 'laws.FnExactExtendToMaximal'. -/
def fnExactExtendToMaximalUptoCard : Claim7 := { stood := { row := fnExactExtendToMaximalUptoRow, standIns := [], harness := (true, "69cf77ae79d9f1c23aec5a659ed2478d00843e5fc13dab8f769f46e545001c3b"), looks := false }, kinds := [], alts := [], laidByText := true, laidKinds := [.data, .data], laidTests := true, laidLooks := .later }
def FnExactExtendToMaximalUptoCardSaid : Prop := Claim7.holds Tryd.pinned (.plain (OpenSpec.upto fnExactExtendToMaximalSpec)) fnExactExtendToMaximalUptoCard

/-- THE SECOND FORM's CARD OF 'laws.FnExactIsMaximalIndependent'. -/
def fnExactIsMaximalIndependentUptoCard : Claim7 := { stood := { row := fnExactIsMaximalIndependentUptoRow, standIns := [], harness := (true, "69cf77ae79d9f1c23aec5a659ed2478d00843e5fc13dab8f769f46e545001c3b"), looks := false }, kinds := [], alts := [], laidByText := true, laidKinds := [.data, .data], laidTests := true, laidLooks := .later }
def FnExactIsMaximalIndependentUptoCardSaid : Prop := Claim7.holds Tryd.pinned (.plain (OpenSpec.upto fnExactIsMaximalIndependentSpec)) fnExactIsMaximalIndependentUptoCard

/-- THE SECOND FORM's CARD OF 'laws.FnExactIsValidPreference'. -/
def fnExactIsValidPreferenceUptoCard : Claim7 := { stood := { row := fnExactIsValidPreferenceUptoRow, standIns := [], harness := (true, "69cf77ae79d9f1c23aec5a659ed2478d00843e5fc13dab8f769f46e545001c3b"), looks := false }, kinds := [], alts := [], laidByText := true, laidKinds := [.data, .data], laidTests := true, laidLooks := .later }
def FnExactIsValidPreferenceUptoCardSaid : Prop := Claim7.holds Tryd.pinned (.plain (OpenSpec.upto fnExactIsValidPreferenceSpec)) fnExactIsValidPreferenceUptoCard

/-- THE SECOND FORM's CARD OF 'laws.FnExactUndominatedFacts'. -/
def fnExactUndominatedFactsUptoCard : Claim7 := { stood := { row := fnExactUndominatedFactsUptoRow, standIns := [], harness := (true, "69cf77ae79d9f1c23aec5a659ed2478d00843e5fc13dab8f769f46e545001c3b"), looks := false }, kinds := [], alts := [], laidByText := true, laidKinds := [.data, .data], laidTests := true, laidLooks := .later }
def FnExactUndominatedFactsUptoCardSaid : Prop := Claim7.holds Tryd.pinned (.plain (OpenSpec.upto fnExactUndominatedFactsSpec)) fnExactUndominatedFactsUptoCard
end Rows
end Go.Proofs.YthkbmfpgdidfhabDoor
