/-
  DERIVED. GIVEN WITH THE SEED: THE CARDS: each row of YtopipjfomnnjcafDoorRows.lean that lists a variable, with what it lists TIED to the program's text (the seventh form; the later family's looks); each row that meets fmt, with fmt's text TOLD by the authors' own Lean function (tested against real Go, not proved from fmt's source: count such statements apart). THE CARD IS WHAT COUNTS. Prove the row's statement (the work); the ties are given (YtopipjfomnnjcafDoorTie.lean); close each card by the builder's one call (the guide's Derived/Test/ToyasCard.lean, 'card_holds'). Laid BY PROGRAM, IN A SANDBOX (cutbox-door.mjs). By AI agents, Wed Nov 11 2026. No macro, syntax, notation, axiom, sorry.
-/
import Derived.Test.YtopipjfomnnjcafDoorRows
import GoSem.ClaimSeven
namespace Go.Proofs.YtopipjfomnnjcafDoor
namespace Rows

/-- THE TIED CARD OF 'laws.FnExactGetText'. -/
def fnExactGetTextCard : Claim7 := { stood := { row := fnExactGetTextRow, standIns := [], harness := (true, "17abf5d2b8c26911fb0d1cfad09495907e8544130693aa7d7f50b167c75bac89"), looks := true }, kinds := [], alts := [], laidByText := true, laidKinds := [.handle], laidTests := true, laidLooks := .later }
def FnExactGetTextCardSaid : Prop := Claim7.holds Tryd.pinned (.plain (OpenSpec.ofChange fnExactGetTextSpec)) fnExactGetTextCard

/-- THE SECOND FORM's CARD OF 'laws.FnExactGetText'. -/
def fnExactGetTextUptoCard : Claim7 := { stood := { row := fnExactGetTextUptoRow, standIns := [], harness := (true, "17abf5d2b8c26911fb0d1cfad09495907e8544130693aa7d7f50b167c75bac89"), looks := true }, kinds := [], alts := [], laidByText := true, laidKinds := [.handle], laidTests := true, laidLooks := .later }
def FnExactGetTextUptoCardSaid : Prop := Claim7.holds Tryd.pinned (.plain (OpenSpec.upto fnExactGetTextSpec)) fnExactGetTextUptoCard
end Rows
end Go.Proofs.YtopipjfomnnjcafDoor
