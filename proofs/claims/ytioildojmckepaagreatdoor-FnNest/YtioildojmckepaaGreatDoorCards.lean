/-
  DERIVED. GIVEN WITH THE SEED: THE CARDS: each row of YtioildojmckepaaGreatDoorRows.lean that lists a variable, with what it lists TIED to the program's text (the seventh form; the later family's looks); each row that meets fmt, with fmt's text TOLD by the authors' own Lean function (tested against real Go, not proved from fmt's source: count such statements apart). THE CARD IS WHAT COUNTS. Prove the row's statement (the work); the ties are given (YtioildojmckepaaGreatDoorTie.lean); close each card by the builder's one call (the guide's Derived/Test/ToyasCard.lean, 'card_holds'). Laid BY PROGRAM, IN A SANDBOX (cutbox-door.mjs). By AI agents, Wed Nov 11 2026. No macro, syntax, notation, axiom, sorry.
-/
import Derived.Test.YtioildojmckepaaGreatDoorRows
import GoSem.ClaimSeven
namespace Go.Proofs.YtioildojmckepaaGreatDoor
namespace Rows

/-- THE TIED CARD OF 'laws.FnNest'. -/
def fnNestCard : Claim7 := { stood := { row := fnNestRow, standIns := [], harness := (true, "fa831bd609af9eb7f2e1359b959a32a316d6a827b2adf5b39b2bc61a89348644"), looks := false }, kinds := [], alts := [], laidByText := true, laidKinds := [.sentinel, .sentinel, .sentinel, .sentinel], laidTests := true, laidLooks := .later }
def FnNestCardSaid : Prop := Claim7.holds Tryz.pinned (.plain (OpenSpec.ofChange fnNestSpec)) fnNestCard

/-- THE SECOND FORM's CARD OF 'laws.FnNest'. -/
def fnNestUptoCard : Claim7 := { stood := { row := fnNestUptoRow, standIns := [], harness := (true, "fa831bd609af9eb7f2e1359b959a32a316d6a827b2adf5b39b2bc61a89348644"), looks := false }, kinds := [], alts := [], laidByText := true, laidKinds := [.sentinel, .sentinel, .sentinel, .sentinel], laidTests := true, laidLooks := .later }
def FnNestUptoCardSaid : Prop := Claim7.holds Tryz.pinned (.plain (OpenSpec.upto fnNestSpec)) fnNestUptoCard
end Rows
end Go.Proofs.YtioildojmckepaaGreatDoor
