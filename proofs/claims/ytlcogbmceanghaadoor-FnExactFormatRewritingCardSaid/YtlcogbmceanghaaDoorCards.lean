/-
  DERIVED. GIVEN WITH THE SEED: THE CARDS: each row of YtlcogbmceanghaaDoorRows.lean that lists a variable, with what it lists TIED to the program's text (the seventh form; the later family's looks); each row that meets fmt, with fmt's text TOLD by the authors' own Lean function (tested against real Go, not proved from fmt's source: count such statements apart). THE CARD IS WHAT COUNTS. Prove the row's statement (the work); the ties are given (YtlcogbmceanghaaDoorTie.lean); close each card by the builder's one call (the guide's Derived/Test/ToyasCard.lean, 'card_holds'). Laid BY PROGRAM, IN A SANDBOX (cutbox-door.mjs). By AI agents, Wed Nov 11 2026. No macro, syntax, notation, axiom, sorry.
-/
import Derived.Test.YtlcogbmceanghaaDoorRows
import GoSem.ClaimSeven
namespace Go.Proofs.YtlcogbmceanghaaDoor
namespace Rows

/-- THE TIED CARD OF 'laws.FnExactFormatQuery'. -/
def fnExactFormatQueryCard : Claim7 := { stood := { row := fnExactFormatQueryRow, standIns := [], harness := (true, "1a4dc14f6d33ca93f2f27bbe08d71c1f4eb47041aeca6d2df25e47a38c9f1667"), looks := false }, kinds := [], alts := [], laidByText := true, laidKinds := [.data, .data, .data], laidTests := true, laidLooks := .later }
def FnExactFormatQueryCardSaid : Prop := Claim7.holds Tryd.pinned (.plain (OpenSpec.ofChange fnExactFormatQuerySpec)) fnExactFormatQueryCard

/-- THE TIED CARD OF 'laws.FnExactFormatGroups'. -/
def fnExactFormatGroupsCard : Claim7 := { stood := { row := fnExactFormatGroupsRow, standIns := [], harness := (true, "1a4dc14f6d33ca93f2f27bbe08d71c1f4eb47041aeca6d2df25e47a38c9f1667"), looks := false }, kinds := [], alts := [], laidByText := true, laidKinds := [.data, .data, .data], laidTests := true, laidLooks := .later }
def FnExactFormatGroupsCardSaid : Prop := Claim7.holds Tryd.pinned (.plain (OpenSpec.ofChange fnExactFormatGroupsSpec)) fnExactFormatGroupsCard

/-- THE TIED CARD OF 'laws.FnExactFormatEdit'. -/
def fnExactFormatEditCard : Claim7 := { stood := { row := fnExactFormatEditRow, standIns := [], harness := (true, "1a4dc14f6d33ca93f2f27bbe08d71c1f4eb47041aeca6d2df25e47a38c9f1667"), looks := false }, kinds := [], alts := [], laidByText := true, laidKinds := [.data, .data, .data], laidTests := true, laidLooks := .later }
def FnExactFormatEditCardSaid : Prop := Claim7.holds Tryd.pinned (.plain (OpenSpec.ofChange fnExactFormatEditSpec)) fnExactFormatEditCard

/-- THE TIED CARD OF 'laws.FnExactParseRelation'. -/
def fnExactParseRelationCard : Claim7 := { stood := { row := fnExactParseRelationRow, standIns := [], harness := (true, "1a4dc14f6d33ca93f2f27bbe08d71c1f4eb47041aeca6d2df25e47a38c9f1667"), looks := false }, kinds := [], alts := [], laidByText := true, laidKinds := [.data, .data, .data], laidTests := true, laidLooks := .later }
def FnExactParseRelationCardSaid : Prop := Claim7.holds Tryd.pinned (.plain (OpenSpec.ofChange fnExactParseRelationSpec)) fnExactParseRelationCard

/-- THE TIED CARD OF 'laws.FnExactFormatDerivation'. -/
def fnExactFormatDerivationCard : Claim7 := { stood := { row := fnExactFormatDerivationRow, standIns := [], harness := (true, "1a4dc14f6d33ca93f2f27bbe08d71c1f4eb47041aeca6d2df25e47a38c9f1667"), looks := false }, kinds := [], alts := [], laidByText := true, laidKinds := [.data, .data, .data], laidTests := true, laidLooks := .later }
def FnExactFormatDerivationCardSaid : Prop := Claim7.holds Tryd.pinned (.plain (OpenSpec.ofChange fnExactFormatDerivationSpec)) fnExactFormatDerivationCard

/-- THE TIED CARD OF 'laws.FnExactFormatRewriting'. -/
def fnExactFormatRewritingCard : Claim7 := { stood := { row := fnExactFormatRewritingRow, standIns := [], harness := (true, "1a4dc14f6d33ca93f2f27bbe08d71c1f4eb47041aeca6d2df25e47a38c9f1667"), looks := false }, kinds := [], alts := [], laidByText := true, laidKinds := [.data, .data, .data], laidTests := true, laidLooks := .later }
def FnExactFormatRewritingCardSaid : Prop := Claim7.holds Tryd.pinned (.plain (OpenSpec.ofChange fnExactFormatRewritingSpec)) fnExactFormatRewritingCard

/-- THE SECOND FORM's CARD OF 'laws.FnExactFormatQuery'. -/
def fnExactFormatQueryUptoCard : Claim7 := { stood := { row := fnExactFormatQueryUptoRow, standIns := [], harness := (true, "1a4dc14f6d33ca93f2f27bbe08d71c1f4eb47041aeca6d2df25e47a38c9f1667"), looks := false }, kinds := [], alts := [], laidByText := true, laidKinds := [.data, .data, .data], laidTests := true, laidLooks := .later }
def FnExactFormatQueryUptoCardSaid : Prop := Claim7.holds Tryd.pinned (.plain (OpenSpec.upto fnExactFormatQuerySpec)) fnExactFormatQueryUptoCard

/-- THE SECOND FORM's CARD OF 'laws.FnExactFormatGroups'. -/
def fnExactFormatGroupsUptoCard : Claim7 := { stood := { row := fnExactFormatGroupsUptoRow, standIns := [], harness := (true, "1a4dc14f6d33ca93f2f27bbe08d71c1f4eb47041aeca6d2df25e47a38c9f1667"), looks := false }, kinds := [], alts := [], laidByText := true, laidKinds := [.data, .data, .data], laidTests := true, laidLooks := .later }
def FnExactFormatGroupsUptoCardSaid : Prop := Claim7.holds Tryd.pinned (.plain (OpenSpec.upto fnExactFormatGroupsSpec)) fnExactFormatGroupsUptoCard

/-- THE SECOND FORM's CARD OF 'laws.FnExactFormatEdit'. -/
def fnExactFormatEditUptoCard : Claim7 := { stood := { row := fnExactFormatEditUptoRow, standIns := [], harness := (true, "1a4dc14f6d33ca93f2f27bbe08d71c1f4eb47041aeca6d2df25e47a38c9f1667"), looks := false }, kinds := [], alts := [], laidByText := true, laidKinds := [.data, .data, .data], laidTests := true, laidLooks := .later }
def FnExactFormatEditUptoCardSaid : Prop := Claim7.holds Tryd.pinned (.plain (OpenSpec.upto fnExactFormatEditSpec)) fnExactFormatEditUptoCard

/-- THE SECOND FORM's CARD OF 'laws.FnExactParseRelation'. -/
def fnExactParseRelationUptoCard : Claim7 := { stood := { row := fnExactParseRelationUptoRow, standIns := [], harness := (true, "1a4dc14f6d33ca93f2f27bbe08d71c1f4eb47041aeca6d2df25e47a38c9f1667"), looks := false }, kinds := [], alts := [], laidByText := true, laidKinds := [.data, .data, .data], laidTests := true, laidLooks := .later }
def FnExactParseRelationUptoCardSaid : Prop := Claim7.holds Tryd.pinned (.plain (OpenSpec.upto fnExactParseRelationSpec)) fnExactParseRelationUptoCard

/-- THE SECOND FORM's CARD OF 'laws.FnExactFormatDerivation'. -/
def fnExactFormatDerivationUptoCard : Claim7 := { stood := { row := fnExactFormatDerivationUptoRow, standIns := [], harness := (true, "1a4dc14f6d33ca93f2f27bbe08d71c1f4eb47041aeca6d2df25e47a38c9f1667"), looks := false }, kinds := [], alts := [], laidByText := true, laidKinds := [.data, .data, .data], laidTests := true, laidLooks := .later }
def FnExactFormatDerivationUptoCardSaid : Prop := Claim7.holds Tryd.pinned (.plain (OpenSpec.upto fnExactFormatDerivationSpec)) fnExactFormatDerivationUptoCard

/-- THE SECOND FORM's CARD OF 'laws.FnExactFormatRewriting'. -/
def fnExactFormatRewritingUptoCard : Claim7 := { stood := { row := fnExactFormatRewritingUptoRow, standIns := [], harness := (true, "1a4dc14f6d33ca93f2f27bbe08d71c1f4eb47041aeca6d2df25e47a38c9f1667"), looks := false }, kinds := [], alts := [], laidByText := true, laidKinds := [.data, .data, .data], laidTests := true, laidLooks := .later }
def FnExactFormatRewritingUptoCardSaid : Prop := Claim7.holds Tryd.pinned (.plain (OpenSpec.upto fnExactFormatRewritingSpec)) fnExactFormatRewritingUptoCard
end Rows
end Go.Proofs.YtlcogbmceanghaaDoor
