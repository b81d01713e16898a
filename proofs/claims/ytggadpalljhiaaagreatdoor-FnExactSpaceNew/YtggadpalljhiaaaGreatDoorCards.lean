/-
  DERIVED. GIVEN WITH THE SEED: THE CARDS: each row of YtggadpalljhiaaaGreatDoorRows.lean that lists a variable, with what it lists TIED to the program's text (the seventh form; the later family's looks); each row that meets fmt, with fmt's text TOLD by the authors' own Lean function (tested against real Go, not proved from fmt's source: count such statements apart). THE CARD IS WHAT COUNTS. Prove the row's statement (the work); the ties are given (YtggadpalljhiaaaGreatDoorTie.lean); close each card by the builder's one call (the guide's Derived/Test/ToyasCard.lean, 'card_holds'). Laid BY PROGRAM, IN A SANDBOX (cutbox-door.mjs). By AI agents, Wed Nov 11 2026. No macro, syntax, notation, axiom, sorry.
-/
import Derived.Test.YtggadpalljhiaaaGreatDoorRows
import GoSem.ClaimSeven
namespace Go.Proofs.YtggadpalljhiaaaGreatDoor
namespace Rows

/-- THE TIED CARD OF 'laws.FnExactSpaceNew'. -/
def fnExactSpaceNewCard : Claim7 := { stood := { row := fnExactSpaceNewRow, standIns := [], harness := (true, "53682073fdf32cebd5a13150fbb87f0cd4550835d6547a5938d355243f391fed"), looks := true }, kinds := [], alts := [], laidByText := true, laidKinds := [.sentinel, .sentinel, .sentinel, .sentinel, .sentinel, .sentinel], laidTests := true, laidLooks := .later }
def FnExactSpaceNewCardSaid : Prop := Claim7.holds Tryz.pinned (.plain (OpenSpec.ofChange fnExactSpaceNewSpec)) fnExactSpaceNewCard

/-- THE SECOND FORM's CARD OF 'laws.FnExactSpaceNew'. -/
def fnExactSpaceNewUptoCard : Claim7 := { stood := { row := fnExactSpaceNewUptoRow, standIns := [], harness := (true, "53682073fdf32cebd5a13150fbb87f0cd4550835d6547a5938d355243f391fed"), looks := true }, kinds := [], alts := [], laidByText := true, laidKinds := [.sentinel, .sentinel, .sentinel, .sentinel, .sentinel, .sentinel], laidTests := true, laidLooks := .later }
def FnExactSpaceNewUptoCardSaid : Prop := Claim7.holds Tryz.pinned (.plain (OpenSpec.upto fnExactSpaceNewSpec)) fnExactSpaceNewUptoCard
end Rows
end Go.Proofs.YtggadpalljhiaaaGreatDoor
