/-
  DERIVED. GIVEN WITH THE SEED: THE CARDS: each row of YteabehbpfhfljaaDoorRows.lean that lists a variable, with what it lists TIED to the program's text (the seventh form; the later family's looks); each row that meets fmt, with fmt's text TOLD by the authors' own Lean function (tested against real Go, not proved from fmt's source: count such statements apart). THE CARD IS WHAT COUNTS. Prove the row's statement (the work); the ties are given (YteabehbpfhfljaaDoorTie.lean); close each card by the builder's one call (the guide's Derived/Test/ToyasCard.lean, 'card_holds'). Laid BY PROGRAM, IN A SANDBOX (cutbox-door.mjs). By AI agents, Wed Nov 11 2026. No macro, syntax, notation, axiom, sorry.
-/
import Derived.Test.YteabehbpfhfljaaDoorRows
import GoSem.ClaimSeven
namespace Go.Proofs.YteabehbpfhfljaaDoor
namespace Rows

/-- THE TIED CARD OF 'laws.FnExactFormatFacts'. -/
def fnExactFormatFactsCard : Claim7 := { stood := { row := fnExactFormatFactsRow, standIns := [], harness := (true, "046b4796fb8b1ba0b8abc9cc74d415c89fbc9826d15cdaedcb624e51f5cf783e"), looks := false }, kinds := [], alts := [], laidByText := true, laidKinds := [.data, .data, .data], laidTests := true, laidLooks := .later }
def FnExactFormatFactsCardSaid : Prop := Claim7.holds Tryd.pinned (.plain (OpenSpec.ofChange fnExactFormatFactsSpec)) fnExactFormatFactsCard

/-- THE TIED CARD OF 'laws.FnExactFormatDatabase'. -/
def fnExactFormatDatabaseCard : Claim7 := { stood := { row := fnExactFormatDatabaseRow, standIns := [], harness := (true, "046b4796fb8b1ba0b8abc9cc74d415c89fbc9826d15cdaedcb624e51f5cf783e"), looks := false }, kinds := [], alts := [], laidByText := true, laidKinds := [.data, .data, .data], laidTests := true, laidLooks := .later }
def FnExactFormatDatabaseCardSaid : Prop := Claim7.holds Tryd.pinned (.plain (OpenSpec.ofChange fnExactFormatDatabaseSpec)) fnExactFormatDatabaseCard

/-- THE TIED CARD OF 'laws.FnExactMaximalIndependentSets'. -/
def fnExactMaximalIndependentSetsCard : Claim7 := { stood := { row := fnExactMaximalIndependentSetsRow, standIns := [], harness := (true, "046b4796fb8b1ba0b8abc9cc74d415c89fbc9826d15cdaedcb624e51f5cf783e"), looks := false }, kinds := [], alts := [], laidByText := true, laidKinds := [.data, .data], laidTests := true, laidLooks := .later }
def FnExactMaximalIndependentSetsCardSaid : Prop := Claim7.holds Tryd.pinned (.plain (OpenSpec.ofChange fnExactMaximalIndependentSetsSpec)) fnExactMaximalIndependentSetsCard

/-- THE TIED CARD OF 'laws.FnExactMaximumIndependentSize'. -/
def fnExactMaximumIndependentSizeCard : Claim7 := { stood := { row := fnExactMaximumIndependentSizeRow, standIns := [], harness := (true, "046b4796fb8b1ba0b8abc9cc74d415c89fbc9826d15cdaedcb624e51f5cf783e"), looks := false }, kinds := [], alts := [], laidByText := true, laidKinds := [.data, .data], laidTests := true, laidLooks := .later }
def FnExactMaximumIndependentSizeCardSaid : Prop := Claim7.holds Tryd.pinned (.plain (OpenSpec.ofChange fnExactMaximumIndependentSizeSpec)) fnExactMaximumIndependentSizeCard

/-- THE SECOND FORM's CARD OF 'laws.FnExactFormatFacts'. -/
def fnExactFormatFactsUptoCard : Claim7 := { stood := { row := fnExactFormatFactsUptoRow, standIns := [], harness := (true, "046b4796fb8b1ba0b8abc9cc74d415c89fbc9826d15cdaedcb624e51f5cf783e"), looks := false }, kinds := [], alts := [], laidByText := true, laidKinds := [.data, .data, .data], laidTests := true, laidLooks := .later }
def FnExactFormatFactsUptoCardSaid : Prop := Claim7.holds Tryd.pinned (.plain (OpenSpec.upto fnExactFormatFactsSpec)) fnExactFormatFactsUptoCard

/-- THE SECOND FORM's CARD OF 'laws.FnExactFormatDatabase'. -/
def fnExactFormatDatabaseUptoCard : Claim7 := { stood := { row := fnExactFormatDatabaseUptoRow, standIns := [], harness := (true, "046b4796fb8b1ba0b8abc9cc74d415c89fbc9826d15cdaedcb624e51f5cf783e"), looks := false }, kinds := [], alts := [], laidByText := true, laidKinds := [.data, .data, .data], laidTests := true, laidLooks := .later }
def FnExactFormatDatabaseUptoCardSaid : Prop := Claim7.holds Tryd.pinned (.plain (OpenSpec.upto fnExactFormatDatabaseSpec)) fnExactFormatDatabaseUptoCard

/-- THE SECOND FORM's CARD OF 'laws.FnExactMaximalIndependentSets'. -/
def fnExactMaximalIndependentSetsUptoCard : Claim7 := { stood := { row := fnExactMaximalIndependentSetsUptoRow, standIns := [], harness := (true, "046b4796fb8b1ba0b8abc9cc74d415c89fbc9826d15cdaedcb624e51f5cf783e"), looks := false }, kinds := [], alts := [], laidByText := true, laidKinds := [.data, .data], laidTests := true, laidLooks := .later }
def FnExactMaximalIndependentSetsUptoCardSaid : Prop := Claim7.holds Tryd.pinned (.plain (OpenSpec.upto fnExactMaximalIndependentSetsSpec)) fnExactMaximalIndependentSetsUptoCard

/-- THE SECOND FORM's CARD OF 'laws.FnExactMaximumIndependentSize'. -/
def fnExactMaximumIndependentSizeUptoCard : Claim7 := { stood := { row := fnExactMaximumIndependentSizeUptoRow, standIns := [], harness := (true, "046b4796fb8b1ba0b8abc9cc74d415c89fbc9826d15cdaedcb624e51f5cf783e"), looks := false }, kinds := [], alts := [], laidByText := true, laidKinds := [.data, .data], laidTests := true, laidLooks := .later }
def FnExactMaximumIndependentSizeUptoCardSaid : Prop := Claim7.holds Tryd.pinned (.plain (OpenSpec.upto fnExactMaximumIndependentSizeSpec)) fnExactMaximumIndependentSizeUptoCard
end Rows
end Go.Proofs.YteabehbpfhfljaaDoor
