/-
  DERIVED. GIVEN WITH THE SEED: THE CARDS: each row of YtppmlbofhghghaaGreatDoorRows.lean that lists a variable, with what it lists TIED to the program's text (the seventh form; the later family's looks); each row that meets fmt, with fmt's text TOLD by the authors' own Lean function (tested against real Go, not proved from fmt's source: count such statements apart). THE CARD IS WHAT COUNTS. Prove the row's statement (the work); the ties are given (YtppmlbofhghghaaGreatDoorTie.lean); close each card by the builder's one call (the guide's Derived/Test/ToyasCard.lean, 'card_holds'). Laid BY PROGRAM, IN A SANDBOX (cutbox-door.mjs). By AI agents, Wed Nov 11 2026. No macro, syntax, notation, axiom, sorry.
-/
import Derived.Test.YtppmlbofhghghaaGreatDoorRows
import GoSem.ClaimSeven
namespace Go.Proofs.YtppmlbofhghghaaGreatDoor
namespace Rows

/-- THE TIED CARD OF 'laws.FnExactWriteFile'. -/
def fnExactWriteFileCard : Claim7 := { stood := { row := fnExactWriteFileRow, standIns := [], harness := (true, "938d7897abb132875e06425ee26b2e4f1135476c2421f073a6888919294b507a"), looks := true }, kinds := [], alts := [], laidByText := true, laidKinds := [.sentinel, .sentinel, .sentinel, .sentinel, .sentinel, .sentinel], laidTests := true, laidLooks := .later }
def FnExactWriteFileCardSaid : Prop := Claim7.holds Tryz.pinned (.plain (OpenSpec.ofChange fnExactWriteFileSpec)) fnExactWriteFileCard

/-- THE TIED CARD OF 'laws.FnExactMakeDir'. -/
def fnExactMakeDirCard : Claim7 := { stood := { row := fnExactMakeDirRow, standIns := [], harness := (true, "938d7897abb132875e06425ee26b2e4f1135476c2421f073a6888919294b507a"), looks := true }, kinds := [], alts := [], laidByText := true, laidKinds := [.sentinel, .sentinel, .sentinel, .sentinel, .sentinel, .sentinel], laidTests := true, laidLooks := .later }
def FnExactMakeDirCardSaid : Prop := Claim7.holds Tryz.pinned (.plain (OpenSpec.ofChange fnExactMakeDirSpec)) fnExactMakeDirCard

/-- THE TIED CARD OF 'laws.FnExactRemove'. -/
def fnExactRemoveCard : Claim7 := { stood := { row := fnExactRemoveRow, standIns := [], harness := (true, "938d7897abb132875e06425ee26b2e4f1135476c2421f073a6888919294b507a"), looks := true }, kinds := [], alts := [], laidByText := true, laidKinds := [.sentinel, .sentinel, .sentinel, .sentinel, .sentinel, .sentinel], laidTests := true, laidLooks := .later }
def FnExactRemoveCardSaid : Prop := Claim7.holds Tryz.pinned (.plain (OpenSpec.ofChange fnExactRemoveSpec)) fnExactRemoveCard

/-- THE TIED CARD OF 'laws.FnExactTouch'. -/
def fnExactTouchCard : Claim7 := { stood := { row := fnExactTouchRow, standIns := [], harness := (true, "938d7897abb132875e06425ee26b2e4f1135476c2421f073a6888919294b507a"), looks := true }, kinds := [], alts := [], laidByText := true, laidKinds := [.sentinel, .sentinel, .sentinel, .sentinel, .sentinel, .sentinel], laidTests := true, laidLooks := .later }
def FnExactTouchCardSaid : Prop := Claim7.holds Tryz.pinned (.plain (OpenSpec.ofChange fnExactTouchSpec)) fnExactTouchCard

/-- THE TIED CARD OF 'laws.FnExactMoveFile'. -/
def fnExactMoveFileCard : Claim7 := { stood := { row := fnExactMoveFileRow, standIns := [], harness := (true, "938d7897abb132875e06425ee26b2e4f1135476c2421f073a6888919294b507a"), looks := true }, kinds := [], alts := [], laidByText := true, laidKinds := [.sentinel, .sentinel, .sentinel, .sentinel, .sentinel, .sentinel], laidTests := true, laidLooks := .later }
def FnExactMoveFileCardSaid : Prop := Claim7.holds Tryz.pinned (.plain (OpenSpec.ofChange fnExactMoveFileSpec)) fnExactMoveFileCard

/-- THE SECOND FORM's CARD OF 'laws.FnExactWriteFile'. -/
def fnExactWriteFileUptoCard : Claim7 := { stood := { row := fnExactWriteFileUptoRow, standIns := [], harness := (true, "938d7897abb132875e06425ee26b2e4f1135476c2421f073a6888919294b507a"), looks := true }, kinds := [], alts := [], laidByText := true, laidKinds := [.sentinel, .sentinel, .sentinel, .sentinel, .sentinel, .sentinel], laidTests := true, laidLooks := .later }
def FnExactWriteFileUptoCardSaid : Prop := Claim7.holds Tryz.pinned (.plain (OpenSpec.upto fnExactWriteFileSpec)) fnExactWriteFileUptoCard

/-- THE SECOND FORM's CARD OF 'laws.FnExactMakeDir'. -/
def fnExactMakeDirUptoCard : Claim7 := { stood := { row := fnExactMakeDirUptoRow, standIns := [], harness := (true, "938d7897abb132875e06425ee26b2e4f1135476c2421f073a6888919294b507a"), looks := true }, kinds := [], alts := [], laidByText := true, laidKinds := [.sentinel, .sentinel, .sentinel, .sentinel, .sentinel, .sentinel], laidTests := true, laidLooks := .later }
def FnExactMakeDirUptoCardSaid : Prop := Claim7.holds Tryz.pinned (.plain (OpenSpec.upto fnExactMakeDirSpec)) fnExactMakeDirUptoCard

/-- THE SECOND FORM's CARD OF 'laws.FnExactRemove'. -/
def fnExactRemoveUptoCard : Claim7 := { stood := { row := fnExactRemoveUptoRow, standIns := [], harness := (true, "938d7897abb132875e06425ee26b2e4f1135476c2421f073a6888919294b507a"), looks := true }, kinds := [], alts := [], laidByText := true, laidKinds := [.sentinel, .sentinel, .sentinel, .sentinel, .sentinel, .sentinel], laidTests := true, laidLooks := .later }
def FnExactRemoveUptoCardSaid : Prop := Claim7.holds Tryz.pinned (.plain (OpenSpec.upto fnExactRemoveSpec)) fnExactRemoveUptoCard

/-- THE SECOND FORM's CARD OF 'laws.FnExactTouch'. -/
def fnExactTouchUptoCard : Claim7 := { stood := { row := fnExactTouchUptoRow, standIns := [], harness := (true, "938d7897abb132875e06425ee26b2e4f1135476c2421f073a6888919294b507a"), looks := true }, kinds := [], alts := [], laidByText := true, laidKinds := [.sentinel, .sentinel, .sentinel, .sentinel, .sentinel, .sentinel], laidTests := true, laidLooks := .later }
def FnExactTouchUptoCardSaid : Prop := Claim7.holds Tryz.pinned (.plain (OpenSpec.upto fnExactTouchSpec)) fnExactTouchUptoCard

/-- THE SECOND FORM's CARD OF 'laws.FnExactMoveFile'. -/
def fnExactMoveFileUptoCard : Claim7 := { stood := { row := fnExactMoveFileUptoRow, standIns := [], harness := (true, "938d7897abb132875e06425ee26b2e4f1135476c2421f073a6888919294b507a"), looks := true }, kinds := [], alts := [], laidByText := true, laidKinds := [.sentinel, .sentinel, .sentinel, .sentinel, .sentinel, .sentinel], laidTests := true, laidLooks := .later }
def FnExactMoveFileUptoCardSaid : Prop := Claim7.holds Tryz.pinned (.plain (OpenSpec.upto fnExactMoveFileSpec)) fnExactMoveFileUptoCard
end Rows
end Go.Proofs.YtppmlbofhghghaaGreatDoor
