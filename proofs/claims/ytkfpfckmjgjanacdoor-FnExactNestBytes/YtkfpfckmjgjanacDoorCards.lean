/-
  DERIVED. GIVEN WITH THE SEED: THE CARDS: each row of YtkfpfckmjgjanacDoorRows.lean that lists a variable, with what it lists TIED to the program's text (the seventh form; the later family's looks); each row that meets fmt, with fmt's text TOLD by the authors' own Lean function (tested against real Go, not proved from fmt's source: count such statements apart). THE CARD IS WHAT COUNTS. Prove the row's statement (the work); the ties are given (YtkfpfckmjgjanacDoorTie.lean); close each card by the builder's one call (the guide's Derived/Test/ToyasCard.lean, 'card_holds'). Laid BY PROGRAM, IN A SANDBOX (cutbox-door.mjs). By AI agents, Wed Nov 11 2026. No macro, syntax, notation, axiom, sorry.
-/
import Derived.Test.YtkfpfckmjgjanacDoorRows
import GoSem.ClaimSeven
namespace Go.Proofs.YtkfpfckmjgjanacDoor
namespace Rows

/-- THE TIED CARD OF 'laws.FnExactNestBytes'. -/
def fnExactNestBytesCard : Claim7 := { stood := { row := fnExactNestBytesRow, standIns := [], harness := (true, "47c83ebd637c8e06acb86986b0c7b4cef0c336004c389bbd6ebf8669d29fb5cf"), looks := false }, kinds := [], alts := [], laidByText := true, laidKinds := [.sentinel, .sentinel, .sentinel, .sentinel], laidTests := true, laidLooks := .later }
def FnExactNestBytesCardSaid : Prop := Claim7.holds Tryd.pinned (.plain (OpenSpec.ofChange fnExactNestBytesSpec)) fnExactNestBytesCard

/-- THE SECOND FORM's CARD OF 'laws.FnExactNestBytes'. -/
def fnExactNestBytesUptoCard : Claim7 := { stood := { row := fnExactNestBytesUptoRow, standIns := [], harness := (true, "47c83ebd637c8e06acb86986b0c7b4cef0c336004c389bbd6ebf8669d29fb5cf"), looks := false }, kinds := [], alts := [], laidByText := true, laidKinds := [.sentinel, .sentinel, .sentinel, .sentinel], laidTests := true, laidLooks := .later }
def FnExactNestBytesUptoCardSaid : Prop := Claim7.holds Tryd.pinned (.plain (OpenSpec.upto fnExactNestBytesSpec)) fnExactNestBytesUptoCard
end Rows
end Go.Proofs.YtkfpfckmjgjanacDoor
