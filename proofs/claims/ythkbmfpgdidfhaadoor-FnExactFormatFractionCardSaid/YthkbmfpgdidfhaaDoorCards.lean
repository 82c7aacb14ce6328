/-
  DERIVED. GIVEN WITH THE SEED: THE CARDS: each row of YthkbmfpgdidfhaaDoorRows.lean that lists a variable, with what it lists TIED to the program's text (the seventh form; the later family's looks); each row that meets fmt, with fmt's text TOLD by the authors' own Lean function (tested against real Go, not proved from fmt's source: count such statements apart). THE CARD IS WHAT COUNTS. Prove the row's statement (the work); the ties are given (YthkbmfpgdidfhaaDoorTie.lean); close each card by the builder's one call (the guide's Derived/Test/ToyasCard.lean, 'card_holds'). Laid BY PROGRAM, IN A SANDBOX (cutbox-door.mjs). By AI agents, Wed Nov 11 2026. No macro, syntax, notation, axiom, sorry.
-/
import Derived.Test.YthkbmfpgdidfhaaDoorRows
import GoSem.ClaimSeven
namespace Go.Proofs.YthkbmfpgdidfhaaDoor
namespace Rows

/-- THE TIED CARD OF 'laws.FnExactFormatRelation'. -/
def fnExactFormatRelationCard : Claim7 := { stood := { row := fnExactFormatRelationRow, standIns := [], harness := (true, "a65e3d0809cb8d3465ad8e0d4dd9811854c01b0e4fc68d7b9219c557bafdcac8"), looks := true }, kinds := [], alts := [], laidByText := true, laidKinds := [.data, .data, .data], laidTests := true, laidLooks := .later }
def FnExactFormatRelationCardSaid : Prop := Claim7.holds Tryd.pinned (.plain (OpenSpec.ofChange fnExactFormatRelationSpec)) fnExactFormatRelationCard

/-- THE TIED CARD OF 'laws.FnExactParseRelation'. -/
def fnExactParseRelationCard : Claim7 := { stood := { row := fnExactParseRelationRow, standIns := [], harness := (true, "a65e3d0809cb8d3465ad8e0d4dd9811854c01b0e4fc68d7b9219c557bafdcac8"), looks := true }, kinds := [], alts := [], laidByText := true, laidKinds := [.data, .data, .data], laidTests := true, laidLooks := .later }
def FnExactParseRelationCardSaid : Prop := Claim7.holds Tryd.pinned (.plain (OpenSpec.ofChange fnExactParseRelationSpec)) fnExactParseRelationCard

/-- THE TIED CARD OF 'laws.FnExactFormatTerm'. -/
def fnExactFormatTermCard : Claim7 := { stood := { row := fnExactFormatTermRow, standIns := [], harness := (true, "a65e3d0809cb8d3465ad8e0d4dd9811854c01b0e4fc68d7b9219c557bafdcac8"), looks := true }, kinds := [], alts := [], laidByText := true, laidKinds := [.data, .data, .data], laidTests := true, laidLooks := .later }
def FnExactFormatTermCardSaid : Prop := Claim7.holds Tryd.pinned (.plain (OpenSpec.ofChange fnExactFormatTermSpec)) fnExactFormatTermCard

/-- THE TIED CARD OF 'laws.FnExactParseTerm'. -/
def fnExactParseTermCard : Claim7 := { stood := { row := fnExactParseTermRow, standIns := [], harness := (true, "a65e3d0809cb8d3465ad8e0d4dd9811854c01b0e4fc68d7b9219c557bafdcac8"), looks := true }, kinds := [], alts := [], laidByText := true, laidKinds := [.data, .data, .data, .sentinel, .sentinel], laidTests := true, laidLooks := .later }
def FnExactParseTermCardSaid : Prop := Claim7.holds Tryd.pinned (.plain (OpenSpec.ofChange fnExactParseTermSpec)) fnExactParseTermCard

/-- THE TIED CARD OF 'laws.FnExactFormatFraction'. -/
def fnExactFormatFractionCard : Claim7 := { stood := { row := fnExactFormatFractionRow, standIns := [], harness := (true, "a65e3d0809cb8d3465ad8e0d4dd9811854c01b0e4fc68d7b9219c557bafdcac8"), looks := true }, kinds := [], alts := [], laidByText := true, laidKinds := [.data, .data, .data], laidTests := true, laidLooks := .later }
def FnExactFormatFractionCardSaid : Prop := Claim7.holds Tryd.pinned (.plain (OpenSpec.ofChange fnExactFormatFractionSpec)) fnExactFormatFractionCard

/-- THE TIED CARD OF 'laws.FnExactFormatClause'. -/
def fnExactFormatClauseCard : Claim7 := { stood := { row := fnExactFormatClauseRow, standIns := [], harness := (true, "a65e3d0809cb8d3465ad8e0d4dd9811854c01b0e4fc68d7b9219c557bafdcac8"), looks := true }, kinds := [], alts := [], laidByText := true, laidKinds := [.data, .data, .data], laidTests := true, laidLooks := .later }
def FnExactFormatClauseCardSaid : Prop := Claim7.holds Tryd.pinned (.plain (OpenSpec.ofChange fnExactFormatClauseSpec)) fnExactFormatClauseCard

/-- THE TIED CARD OF 'laws.FnExactFormatConstraint'. -/
def fnExactFormatConstraintCard : Claim7 := { stood := { row := fnExactFormatConstraintRow, standIns := [], harness := (true, "a65e3d0809cb8d3465ad8e0d4dd9811854c01b0e4fc68d7b9219c557bafdcac8"), looks := true }, kinds := [], alts := [], laidByText := true, laidKinds := [.data, .data, .data], laidTests := true, laidLooks := .later }
def FnExactFormatConstraintCardSaid : Prop := Claim7.holds Tryd.pinned (.plain (OpenSpec.ofChange fnExactFormatConstraintSpec)) fnExactFormatConstraintCard

/-- THE TIED CARD OF 'laws.FnExactFormatRows'. -/
def fnExactFormatRowsCard : Claim7 := { stood := { row := fnExactFormatRowsRow, standIns := [], harness := (true, "a65e3d0809cb8d3465ad8e0d4dd9811854c01b0e4fc68d7b9219c557bafdcac8"), looks := true }, kinds := [], alts := [], laidByText := true, laidKinds := [.data, .data, .data], laidTests := true, laidLooks := .later }
def FnExactFormatRowsCardSaid : Prop := Claim7.holds Tryd.pinned (.plain (OpenSpec.ofChange fnExactFormatRowsSpec)) fnExactFormatRowsCard

/-- THE TIED CARD OF 'laws.FnExactFormatClauses'. -/
def fnExactFormatClausesCard : Claim7 := { stood := { row := fnExactFormatClausesRow, standIns := [], harness := (true, "a65e3d0809cb8d3465ad8e0d4dd9811854c01b0e4fc68d7b9219c557bafdcac8"), looks := true }, kinds := [], alts := [], laidByText := true, laidKinds := [.data, .data, .data], laidTests := true, laidLooks := .later }
def FnExactFormatClausesCardSaid : Prop := Claim7.holds Tryd.pinned (.plain (OpenSpec.ofChange fnExactFormatClausesSpec)) fnExactFormatClausesCard

/-- THE TIED CARD OF 'laws.FnExactFormatGroups'. -/
def fnExactFormatGroupsCard : Claim7 := { stood := { row := fnExactFormatGroupsRow, standIns := [], harness := (true, "a65e3d0809cb8d3465ad8e0d4dd9811854c01b0e4fc68d7b9219c557bafdcac8"), looks := true }, kinds := [], alts := [], laidByText := true, laidKinds := [.data, .data, .data], laidTests := true, laidLooks := .later }
def FnExactFormatGroupsCardSaid : Prop := Claim7.holds Tryd.pinned (.plain (OpenSpec.ofChange fnExactFormatGroupsSpec)) fnExactFormatGroupsCard

/-- THE TIED CARD OF 'laws.FnExactFormatFact'. -/
def fnExactFormatFactCard : Claim7 := { stood := { row := fnExactFormatFactRow, standIns := [], harness := (true, "a65e3d0809cb8d3465ad8e0d4dd9811854c01b0e4fc68d7b9219c557bafdcac8"), looks := true }, kinds := [], alts := [], laidByText := true, laidKinds := [.data, .data, .data], laidTests := true, laidLooks := .later }
def FnExactFormatFactCardSaid : Prop := Claim7.holds Tryd.pinned (.plain (OpenSpec.ofChange fnExactFormatFactSpec)) fnExactFormatFactCard

/-- THE TIED CARD OF 'laws.FnExactFormatEdit'. -/
def fnExactFormatEditCard : Claim7 := { stood := { row := fnExactFormatEditRow, standIns := [], harness := (true, "a65e3d0809cb8d3465ad8e0d4dd9811854c01b0e4fc68d7b9219c557bafdcac8"), looks := true }, kinds := [], alts := [], laidByText := true, laidKinds := [.data, .data, .data], laidTests := true, laidLooks := .later }
def FnExactFormatEditCardSaid : Prop := Claim7.holds Tryd.pinned (.plain (OpenSpec.ofChange fnExactFormatEditSpec)) fnExactFormatEditCard

/-- THE SECOND FORM's CARD OF 'laws.FnExactFormatRelation'. -/
def fnExactFormatRelationUptoCard : Claim7 := { stood := { row := fnExactFormatRelationUptoRow, standIns := [], harness := (true, "a65e3d0809cb8d3465ad8e0d4dd9811854c01b0e4fc68d7b9219c557bafdcac8"), looks := true }, kinds := [], alts := [], laidByText := true, laidKinds := [.data, .data, .data], laidTests := true, laidLooks := .later }
def FnExactFormatRelationUptoCardSaid : Prop := Claim7.holds Tryd.pinned (.plain (OpenSpec.upto fnExactFormatRelationSpec)) fnExactFormatRelationUptoCard

/-- THE SECOND FORM's CARD OF 'laws.FnExactParseRelation'. -/
def fnExactParseRelationUptoCard : Claim7 := { stood := { row := fnExactParseRelationUptoRow, standIns := [], harness := (true, "a65e3d0809cb8d3465ad8e0d4dd9811854c01b0e4fc68d7b9219c557bafdcac8"), looks := true }, kinds := [], alts := [], laidByText := true, laidKinds := [.data, .data, .data], laidTests := true, laidLooks := .later }
def FnExactParseRelationUptoCardSaid : Prop := Claim7.holds Tryd.pinned (.plain (OpenSpec.upto fnExactParseRelationSpec)) fnExactParseRelationUptoCard

/-- THE SECOND FORM's CARD OF 'laws.FnExactFormatTerm'. -/
def fnExactFormatTermUptoCard : Claim7 := { stood := { row := fnExactFormatTermUptoRow, standIns := [], harness := (true, "a65e3d0809cb8d3465ad8e0d4dd9811854c01b0e4fc68d7b9219c557bafdcac8"), looks := true }, kinds := [], alts := [], laidByText := true, laidKinds := [.data, .data, .data], laidTests := true, laidLooks := .later }
def FnExactFormatTermUptoCardSaid : Prop := Claim7.holds Tryd.pinned (.plain (OpenSpec.upto fnExactFormatTermSpec)) fnExactFormatTermUptoCard

/-- THE SECOND FORM's CARD OF 'laws.FnExactParseTerm'. -/
def fnExactParseTermUptoCard : Claim7 := { stood := { row := fnExactParseTermUptoRow, standIns := [], harness := (true, "a65e3d0809cb8d3465ad8e0d4dd9811854c01b0e4fc68d7b9219c557bafdcac8"), looks := true }, kinds := [], alts := [], laidByText := true, laidKinds := [.data, .data, .data, .sentinel, .sentinel], laidTests := true, laidLooks := .later }
def FnExactParseTermUptoCardSaid : Prop := Claim7.holds Tryd.pinned (.plain (OpenSpec.upto fnExactParseTermSpec)) fnExactParseTermUptoCard

/-- THE SECOND FORM's CARD OF 'laws.FnExactFormatFraction'. -/
def fnExactFormatFractionUptoCard : Claim7 := { stood := { row := fnExactFormatFractionUptoRow, standIns := [], harness := (true, "a65e3d0809cb8d3465ad8e0d4dd9811854c01b0e4fc68d7b9219c557bafdcac8"), looks := true }, kinds := [], alts := [], laidByText := true, laidKinds := [.data, .data, .data], laidTests := true, laidLooks := .later }
def FnExactFormatFractionUptoCardSaid : Prop := Claim7.holds Tryd.pinned (.plain (OpenSpec.upto fnExactFormatFractionSpec)) fnExactFormatFractionUptoCard

/-- THE SECOND FORM's CARD OF 'laws.FnExactFormatClause'. -/
def fnExactFormatClauseUptoCard : Claim7 := { stood := { row := fnExactFormatClauseUptoRow, standIns := [], harness := (true, "a65e3d0809cb8d3465ad8e0d4dd9811854c01b0e4fc68d7b9219c557bafdcac8"), looks := true }, kinds := [], alts := [], laidByText := true, laidKinds := [.data, .data, .data], laidTests := true, laidLooks := .later }
def FnExactFormatClauseUptoCardSaid : Prop := Claim7.holds Tryd.pinned (.plain (OpenSpec.upto fnExactFormatClauseSpec)) fnExactFormatClauseUptoCard

/-- THE SECOND FORM's CARD OF 'laws.FnExactFormatConstraint'. -/
def fnExactFormatConstraintUptoCard : Claim7 := { stood := { row := fnExactFormatConstraintUptoRow, standIns := [], harness := (true, "a65e3d0809cb8d3465ad8e0d4dd9811854c01b0e4fc68d7b9219c557bafdcac8"), looks := true }, kinds := [], alts := [], laidByText := true, laidKinds := [.data, .data, .data], laidTests := true, laidLooks := .later }
def FnExactFormatConstraintUptoCardSaid : Prop := Claim7.holds Tryd.pinned (.plain (OpenSpec.upto fnExactFormatConstraintSpec)) fnExactFormatConstraintUptoCard

/-- THE SECOND FORM's CARD OF 'laws.FnExactFormatRows'. -/
def fnExactFormatRowsUptoCard : Claim7 := { stood := { row := fnExactFormatRowsUptoRow, standIns := [], harness := (true, "a65e3d0809cb8d3465ad8e0d4dd9811854c01b0e4fc68d7b9219c557bafdcac8"), looks := true }, kinds := [], alts := [], laidByText := true, laidKinds := [.data, .data, .data], laidTests := true, laidLooks := .later }
def FnExactFormatRowsUptoCardSaid : Prop := Claim7.holds Tryd.pinned (.plain (OpenSpec.upto fnExactFormatRowsSpec)) fnExactFormatRowsUptoCard

/-- THE SECOND FORM's CARD OF 'laws.FnExactFormatClauses'. -/
def fnExactFormatClausesUptoCard : Claim7 := { stood := { row := fnExactFormatClausesUptoRow, standIns := [], harness := (true, "a65e3d0809cb8d3465ad8e0d4dd9811854c01b0e4fc68d7b9219c557bafdcac8"), looks := true }, kinds := [], alts := [], laidByText := true, laidKinds := [.data, .data, .data], laidTests := true, laidLooks := .later }
def FnExactFormatClausesUptoCardSaid : Prop := Claim7.holds Tryd.pinned (.plain (OpenSpec.upto fnExactFormatClausesSpec)) fnExactFormatClausesUptoCard

/-- THE SECOND FORM's CARD OF 'laws.FnExactFormatGroups'. -/
def fnExactFormatGroupsUptoCard : Claim7 := { stood := { row := fnExactFormatGroupsUptoRow, standIns := [], harness := (true, "a65e3d0809cb8d3465ad8e0d4dd9811854c01b0e4fc68d7b9219c557bafdcac8"), looks := true }, kinds := [], alts := [], laidByText := true, laidKinds := [.data, .data, .data], laidTests := true, laidLooks := .later }
def FnExactFormatGroupsUptoCardSaid : Prop := Claim7.holds Tryd.pinned (.plain (OpenSpec.upto fnExactFormatGroupsSpec)) fnExactFormatGroupsUptoCard

/-- THE SECOND FORM's CARD OF 'laws.FnExactFormatFact'. -/
def fnExactFormatFactUptoCard : Claim7 := { stood := { row := fnExactFormatFactUptoRow, standIns := [], harness := (true, "a65e3d0809cb8d3465ad8e0d4dd9811854c01b0e4fc68d7b9219c557bafdcac8"), looks := true }, kinds := [], alts := [], laidByText := true, laidKinds := [.data, .data, .data], laidTests := true, laidLooks := .later }
def FnExactFormatFactUptoCardSaid : Prop := Claim7.holds Tryd.pinned (.plain (OpenSpec.upto fnExactFormatFactSpec)) fnExactFormatFactUptoCard

/-- THE SECOND FORM's CARD OF 'laws.FnExactFormatEdit'. -/
def fnExactFormatEditUptoCard : Claim7 := { stood := { row := fnExactFormatEditUptoRow, standIns := [], harness := (true, "a65e3d0809cb8d3465ad8e0d4dd9811854c01b0e4fc68d7b9219c557bafdcac8"), looks := true }, kinds := [], alts := [], laidByText := true, laidKinds := [.data, .data, .data], laidTests := true, laidLooks := .later }
def FnExactFormatEditUptoCardSaid : Prop := Claim7.holds Tryd.pinned (.plain (OpenSpec.upto fnExactFormatEditSpec)) fnExactFormatEditUptoCard
end Rows
end Go.Proofs.YthkbmfpgdidfhaaDoor
