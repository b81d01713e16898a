/-
  DERIVED. GIVEN WITH THE SEED: THE CARDS: each row of YtopipjfomnnjcaeDoorRows.lean that lists a variable, with what it lists TIED to the program's text (the seventh form; the later family's looks); each row that meets fmt, with fmt's text TOLD by the authors' own Lean function (tested against real Go, not proved from fmt's source: count such statements apart). THE CARD IS WHAT COUNTS. Prove the row's statement (the work); the ties are given (YtopipjfomnnjcaeDoorTie.lean); close each card by the builder's one call (the guide's Derived/Test/ToyasCard.lean, 'card_holds'). Laid BY PROGRAM, IN A SANDBOX (cutbox-door.mjs). By AI agents, Wed Nov 11 2026. No macro, syntax, notation, axiom, sorry.
-/
import Derived.Test.YtopipjfomnnjcaeDoorRows
import GoSem.ClaimSeven
namespace Go.Proofs.YtopipjfomnnjcaeDoor
namespace Rows

/-- THE TIED CARD OF 'laws.FnExactGetNum'. -/
def fnExactGetNumCard : Claim7 := { stood := { row := fnExactGetNumRow, standIns := [], harness := (true, "d10dc9e46bb5f0fce04b6bfa189a445ec5309d6b8c673e8b0b9b346ffaa3806a"), looks := true }, kinds := [], alts := [], laidByText := true, laidKinds := [.handle], laidTests := true, laidLooks := .later }
def FnExactGetNumCardSaid : Prop := Claim7.holds Tryd.pinned (.plain (OpenSpec.ofChange fnExactGetNumSpec)) fnExactGetNumCard

/-- THE SECOND FORM's CARD OF 'laws.FnExactGetNum'. -/
def fnExactGetNumUptoCard : Claim7 := { stood := { row := fnExactGetNumUptoRow, standIns := [], harness := (true, "d10dc9e46bb5f0fce04b6bfa189a445ec5309d6b8c673e8b0b9b346ffaa3806a"), looks := true }, kinds := [], alts := [], laidByText := true, laidKinds := [.handle], laidTests := true, laidLooks := .later }
def FnExactGetNumUptoCardSaid : Prop := Claim7.holds Tryd.pinned (.plain (OpenSpec.upto fnExactGetNumSpec)) fnExactGetNumUptoCard
end Rows
end Go.Proofs.YtopipjfomnnjcaeDoor
