/-
  DERIVED. GIVEN WITH THE SEED: THE CARDS: each row of YtbomeifgfalmdaaGreatDoorRows.lean that lists a variable, with what it lists TIED to the program's text (the seventh form; the later family's looks); each row that meets fmt, with fmt's text TOLD by the authors' own Lean function (tested against real Go, not proved from fmt's source: count such statements apart). THE CARD IS WHAT COUNTS. Prove the row's statement (the work); the ties are given (YtbomeifgfalmdaaGreatDoorTie.lean); close each card by the builder's one call (the guide's Derived/Test/ToyasCard.lean, 'card_holds'). Laid BY PROGRAM, IN A SANDBOX (cutbox-door.mjs). By AI agents, Wed Nov 11 2026. No macro, syntax, notation, axiom, sorry.
-/
import Derived.Test.YtbomeifgfalmdaaGreatDoorRows
import GoSem.ClaimSeven
namespace Go.Proofs.YtbomeifgfalmdaaGreatDoor
namespace Rows

/-- THE TIED CARD OF 'laws.FnExactVfsList'. -/
def fnExactVfsListCard : Claim7 := { stood := { row := fnExactVfsListRow, standIns := [], harness := (true, "315e633f7238655fb3e04cadf008ca6ae752f8bf32f2f749e681d8243822f43e"), looks := true }, kinds := [], alts := [], laidByText := true, laidKinds := [.handle, .sentinel, .sentinel, .sentinel, .sentinel, .data], laidTests := true, laidLooks := .later }
def FnExactVfsListCardSaid : Prop := Claim7.holds Tryz.pinned (.plain (OpenSpec.ofChange fnExactVfsListSpec)) fnExactVfsListCard

/-- THE SECOND FORM's CARD OF 'laws.FnExactVfsList'. -/
def fnExactVfsListUptoCard : Claim7 := { stood := { row := fnExactVfsListUptoRow, standIns := [], harness := (true, "315e633f7238655fb3e04cadf008ca6ae752f8bf32f2f749e681d8243822f43e"), looks := true }, kinds := [], alts := [], laidByText := true, laidKinds := [.handle, .sentinel, .sentinel, .sentinel, .sentinel, .data], laidTests := true, laidLooks := .later }
def FnExactVfsListUptoCardSaid : Prop := Claim7.holds Tryz.pinned (.plain (OpenSpec.upto fnExactVfsListSpec)) fnExactVfsListUptoCard
end Rows
end Go.Proofs.YtbomeifgfalmdaaGreatDoor
