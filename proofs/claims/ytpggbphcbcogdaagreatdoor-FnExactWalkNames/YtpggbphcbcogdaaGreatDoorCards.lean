/-
  DERIVED. GIVEN WITH THE SEED: THE CARDS: each row of YtpggbphcbcogdaaGreatDoorRows.lean that lists a variable, with what it lists TIED to the program's text (the seventh form; the later family's looks); each row that meets fmt, with fmt's text TOLD by the authors' own Lean function (tested against real Go, not proved from fmt's source: count such statements apart). THE CARD IS WHAT COUNTS. Prove the row's statement (the work); the ties are given (YtpggbphcbcogdaaGreatDoorTie.lean); close each card by the builder's one call (the guide's Derived/Test/ToyasCard.lean, 'card_holds'). Laid BY PROGRAM, IN A SANDBOX (cutbox-door.mjs). By AI agents, Wed Nov 11 2026. No macro, syntax, notation, axiom, sorry.
-/
import Derived.Test.YtpggbphcbcogdaaGreatDoorRows
import GoSem.ClaimSeven
namespace Go.Proofs.YtpggbphcbcogdaaGreatDoor
namespace Rows

/-- THE TIED CARD OF 'laws.FnExactWalkNames'. -/
def fnExactWalkNamesCard : Claim7 := { stood := { row := fnExactWalkNamesRow, standIns := [], harness := (true, "9cc64a4ee827df346ddd663b5d83cce8c0b9eaabfb2480dcd5107b633815f7c8"), looks := false }, kinds := [], alts := [], laidByText := true, laidKinds := [.sentinel, .sentinel, .sentinel, .sentinel], laidTests := true, laidLooks := .later }
def FnExactWalkNamesCardSaid : Prop := Claim7.holds Tryz.pinned (.plain (OpenSpec.ofChange fnExactWalkNamesSpec)) fnExactWalkNamesCard

/-- THE SECOND FORM's CARD OF 'laws.FnExactWalkNames'. -/
def fnExactWalkNamesUptoCard : Claim7 := { stood := { row := fnExactWalkNamesUptoRow, standIns := [], harness := (true, "9cc64a4ee827df346ddd663b5d83cce8c0b9eaabfb2480dcd5107b633815f7c8"), looks := false }, kinds := [], alts := [], laidByText := true, laidKinds := [.sentinel, .sentinel, .sentinel, .sentinel], laidTests := true, laidLooks := .later }
def FnExactWalkNamesUptoCardSaid : Prop := Claim7.holds Tryz.pinned (.plain (OpenSpec.upto fnExactWalkNamesSpec)) fnExactWalkNamesUptoCard
end Rows
end Go.Proofs.YtpggbphcbcogdaaGreatDoor
