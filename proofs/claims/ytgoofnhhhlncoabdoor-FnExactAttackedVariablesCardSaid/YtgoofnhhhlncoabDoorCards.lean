/-
  DERIVED. GIVEN WITH THE SEED: THE CARDS: each row of YtgoofnhhhlncoabDoorRows.lean that lists a variable, with what it lists TIED to the program's text (the seventh form; the later family's looks); each row that meets fmt, with fmt's text TOLD by the authors' own Lean function (tested against real Go, not proved from fmt's source: count such statements apart). THE CARD IS WHAT COUNTS. Prove the row's statement (the work); the ties are given (YtgoofnhhhlncoabDoorTie.lean); close each card by the builder's one call (the guide's Derived/Test/ToyasCard.lean, 'card_holds'). Laid BY PROGRAM, IN A SANDBOX (cutbox-door.mjs). By AI agents, Wed Nov 11 2026. No macro, syntax, notation, axiom, sorry.
-/
import Derived.Test.YtgoofnhhhlncoabDoorRows
import GoSem.ClaimSeven
namespace Go.Proofs.YtgoofnhhhlncoabDoor
namespace Rows

/-- THE TIED CARD OF 'laws.FnExactAttributeClosure'. -/
def fnExactAttributeClosureCard : Claim7 := { stood := { row := fnExactAttributeClosureRow, standIns := [], harness := (true, "72de098110390eff47116366a813612d2d87730f6dd4f7315a39733a348cb33d"), looks := false }, kinds := [], alts := [], laidByText := true, laidKinds := [.data, .data], laidTests := true, laidLooks := .later }
def FnExactAttributeClosureCardSaid : Prop := Claim7.holds Tryd.pinned (.plain (OpenSpec.ofChange fnExactAttributeClosureSpec)) fnExactAttributeClosureCard

/-- THE TIED CARD OF 'laws.FnExactKeyClosure'. -/
def fnExactKeyClosureCard : Claim7 := { stood := { row := fnExactKeyClosureRow, standIns := [], harness := (true, "72de098110390eff47116366a813612d2d87730f6dd4f7315a39733a348cb33d"), looks := false }, kinds := [], alts := [], laidByText := true, laidKinds := [.data, .data], laidTests := true, laidLooks := .later }
def FnExactKeyClosureCardSaid : Prop := Claim7.holds Tryd.pinned (.plain (OpenSpec.ofChange fnExactKeyClosureSpec)) fnExactKeyClosureCard

/-- THE TIED CARD OF 'laws.FnExactDetermines'. -/
def fnExactDeterminesCard : Claim7 := { stood := { row := fnExactDeterminesRow, standIns := [], harness := (true, "72de098110390eff47116366a813612d2d87730f6dd4f7315a39733a348cb33d"), looks := false }, kinds := [], alts := [], laidByText := true, laidKinds := [.data, .data], laidTests := true, laidLooks := .later }
def FnExactDeterminesCardSaid : Prop := Claim7.holds Tryd.pinned (.plain (OpenSpec.ofChange fnExactDeterminesSpec)) fnExactDeterminesCard

/-- THE TIED CARD OF 'laws.FnExactAttackedVariables'. -/
def fnExactAttackedVariablesCard : Claim7 := { stood := { row := fnExactAttackedVariablesRow, standIns := [], harness := (true, "72de098110390eff47116366a813612d2d87730f6dd4f7315a39733a348cb33d"), looks := false }, kinds := [], alts := [], laidByText := true, laidKinds := [.data, .data], laidTests := true, laidLooks := .later }
def FnExactAttackedVariablesCardSaid : Prop := Claim7.holds Tryd.pinned (.plain (OpenSpec.ofChange fnExactAttackedVariablesSpec)) fnExactAttackedVariablesCard

/-- THE TIED CARD OF 'laws.FnExactHasAttackPath'. -/
def fnExactHasAttackPathCard : Claim7 := { stood := { row := fnExactHasAttackPathRow, standIns := [], harness := (true, "72de098110390eff47116366a813612d2d87730f6dd4f7315a39733a348cb33d"), looks := false }, kinds := [], alts := [], laidByText := true, laidKinds := [.data, .data], laidTests := true, laidLooks := .later }
def FnExactHasAttackPathCardSaid : Prop := Claim7.holds Tryd.pinned (.plain (OpenSpec.ofChange fnExactHasAttackPathSpec)) fnExactHasAttackPathCard

/-- THE TIED CARD OF 'laws.FnExactIsCyclic'. -/
def fnExactIsCyclicCard : Claim7 := { stood := { row := fnExactIsCyclicRow, standIns := [], harness := (true, "72de098110390eff47116366a813612d2d87730f6dd4f7315a39733a348cb33d"), looks := false }, kinds := [], alts := [], laidByText := true, laidKinds := [.data, .data], laidTests := true, laidLooks := .later }
def FnExactIsCyclicCardSaid : Prop := Claim7.holds Tryd.pinned (.plain (OpenSpec.ofChange fnExactIsCyclicSpec)) fnExactIsCyclicCard

/-- THE TIED CARD OF 'laws.FnExactClassify'. -/
def fnExactClassifyCard : Claim7 := { stood := { row := fnExactClassifyRow, standIns := [], harness := (true, "72de098110390eff47116366a813612d2d87730f6dd4f7315a39733a348cb33d"), looks := false }, kinds := [], alts := [], laidByText := true, laidKinds := [.data, .data], laidTests := true, laidLooks := .later }
def FnExactClassifyCardSaid : Prop := Claim7.holds Tryd.pinned (.plain (OpenSpec.ofChange fnExactClassifySpec)) fnExactClassifyCard

/-- THE SECOND FORM's CARD OF 'laws.FnExactAttributeClosure'. -/
def fnExactAttributeClosureUptoCard : Claim7 := { stood := { row := fnExactAttributeClosureUptoRow, standIns := [], harness := (true, "72de098110390eff47116366a813612d2d87730f6dd4f7315a39733a348cb33d"), looks := false }, kinds := [], alts := [], laidByText := true, laidKinds := [.data, .data], laidTests := true, laidLooks := .later }
def FnExactAttributeClosureUptoCardSaid : Prop := Claim7.holds Tryd.pinned (.plain (OpenSpec.upto fnExactAttributeClosureSpec)) fnExactAttributeClosureUptoCard

/-- THE SECOND FORM's CARD OF 'laws.FnExactKeyClosure'. -/
def fnExactKeyClosureUptoCard : Claim7 := { stood := { row := fnExactKeyClosureUptoRow, standIns := [], harness := (true, "72de098110390eff47116366a813612d2d87730f6dd4f7315a39733a348cb33d"), looks := false }, kinds := [], alts := [], laidByText := true, laidKinds := [.data, .data], laidTests := true, laidLooks := .later }
def FnExactKeyClosureUptoCardSaid : Prop := Claim7.holds Tryd.pinned (.plain (OpenSpec.upto fnExactKeyClosureSpec)) fnExactKeyClosureUptoCard

/-- THE SECOND FORM's CARD OF 'laws.FnExactDetermines'. -/
def fnExactDeterminesUptoCard : Claim7 := { stood := { row := fnExactDeterminesUptoRow, standIns := [], harness := (true, "72de098110390eff47116366a813612d2d87730f6dd4f7315a39733a348cb33d"), looks := false }, kinds := [], alts := [], laidByText := true, laidKinds := [.data, .data], laidTests := true, laidLooks := .later }
def FnExactDeterminesUptoCardSaid : Prop := Claim7.holds Tryd.pinned (.plain (OpenSpec.upto fnExactDeterminesSpec)) fnExactDeterminesUptoCard

/-- THE SECOND FORM's CARD OF 'laws.FnExactAttackedVariables'. -/
def fnExactAttackedVariablesUptoCard : Claim7 := { stood := { row := fnExactAttackedVariablesUptoRow, standIns := [], harness := (true, "72de098110390eff47116366a813612d2d87730f6dd4f7315a39733a348cb33d"), looks := false }, kinds := [], alts := [], laidByText := true, laidKinds := [.data, .data], laidTests := true, laidLooks := .later }
def FnExactAttackedVariablesUptoCardSaid : Prop := Claim7.holds Tryd.pinned (.plain (OpenSpec.upto fnExactAttackedVariablesSpec)) fnExactAttackedVariablesUptoCard

/-- THE SECOND FORM's CARD OF 'laws.FnExactHasAttackPath'. -/
def fnExactHasAttackPathUptoCard : Claim7 := { stood := { row := fnExactHasAttackPathUptoRow, standIns := [], harness := (true, "72de098110390eff47116366a813612d2d87730f6dd4f7315a39733a348cb33d"), looks := false }, kinds := [], alts := [], laidByText := true, laidKinds := [.data, .data], laidTests := true, laidLooks := .later }
def FnExactHasAttackPathUptoCardSaid : Prop := Claim7.holds Tryd.pinned (.plain (OpenSpec.upto fnExactHasAttackPathSpec)) fnExactHasAttackPathUptoCard

/-- THE SECOND FORM's CARD OF 'laws.FnExactIsCyclic'. -/
def fnExactIsCyclicUptoCard : Claim7 := { stood := { row := fnExactIsCyclicUptoRow, standIns := [], harness := (true, "72de098110390eff47116366a813612d2d87730f6dd4f7315a39733a348cb33d"), looks := false }, kinds := [], alts := [], laidByText := true, laidKinds := [.data, .data], laidTests := true, laidLooks := .later }
def FnExactIsCyclicUptoCardSaid : Prop := Claim7.holds Tryd.pinned (.plain (OpenSpec.upto fnExactIsCyclicSpec)) fnExactIsCyclicUptoCard

/-- THE SECOND FORM's CARD OF 'laws.FnExactClassify'. -/
def fnExactClassifyUptoCard : Claim7 := { stood := { row := fnExactClassifyUptoRow, standIns := [], harness := (true, "72de098110390eff47116366a813612d2d87730f6dd4f7315a39733a348cb33d"), looks := false }, kinds := [], alts := [], laidByText := true, laidKinds := [.data, .data], laidTests := true, laidLooks := .later }
def FnExactClassifyUptoCardSaid : Prop := Claim7.holds Tryd.pinned (.plain (OpenSpec.upto fnExactClassifySpec)) fnExactClassifyUptoCard
end Rows
end Go.Proofs.YtgoofnhhhlncoabDoor
