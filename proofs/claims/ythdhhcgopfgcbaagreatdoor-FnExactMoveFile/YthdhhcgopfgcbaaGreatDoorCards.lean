/-
  DERIVED. GIVEN WITH THE SEED: THE CARDS: each row of YthdhhcgopfgcbaaGreatDoorRows.lean that lists a variable, with what it lists TIED to the program's text (the seventh form; the later family's looks); each row that meets fmt, with fmt's text TOLD by the authors' own Lean function (tested against real Go, not proved from fmt's source: count such statements apart). THE CARD IS WHAT COUNTS. Prove the row's statement (the work); the ties are given (YthdhhcgopfgcbaaGreatDoorTie.lean); close each card by the builder's one call (the guide's Derived/Test/ToyasCard.lean, 'card_holds'). Laid BY PROGRAM, IN A SANDBOX (cutbox-door.mjs). By AI agents, Wed Nov 11 2026. No macro, syntax, notation, axiom, sorry.
-/
import Derived.Test.YthdhhcgopfgcbaaGreatDoorRows
import GoSem.ClaimSeven
namespace Go.Proofs.YthdhhcgopfgcbaaGreatDoor
namespace Rows

/-- THE TIED CARD OF 'laws.FnExactMoveFile'. -/
def fnExactMoveFileCard : Claim7 := { stood := { row := fnExactMoveFileRow, standIns := [], harness := (true, "c83ea63616e8063716fe3218cb8062f52afc57904289ba392654afe46e1763da"), looks := true }, kinds := [], alts := [], laidByText := true, laidKinds := [.sentinel, .sentinel, .sentinel, .sentinel, .sentinel, .sentinel], laidTests := true, laidLooks := .later }
def FnExactMoveFileCardSaid : Prop := Claim7.holds Tryz.pinned (.plain (OpenSpec.ofChange fnExactMoveFileSpec)) fnExactMoveFileCard

/-- THE SECOND FORM's CARD OF 'laws.FnExactMoveFile'. -/
def fnExactMoveFileUptoCard : Claim7 := { stood := { row := fnExactMoveFileUptoRow, standIns := [], harness := (true, "c83ea63616e8063716fe3218cb8062f52afc57904289ba392654afe46e1763da"), looks := true }, kinds := [], alts := [], laidByText := true, laidKinds := [.sentinel, .sentinel, .sentinel, .sentinel, .sentinel, .sentinel], laidTests := true, laidLooks := .later }
def FnExactMoveFileUptoCardSaid : Prop := Claim7.holds Tryz.pinned (.plain (OpenSpec.upto fnExactMoveFileSpec)) fnExactMoveFileUptoCard
end Rows
end Go.Proofs.YthdhhcgopfgcbaaGreatDoor
