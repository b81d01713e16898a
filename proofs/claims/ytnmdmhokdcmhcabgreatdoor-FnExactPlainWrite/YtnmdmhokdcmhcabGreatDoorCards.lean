/-
  DERIVED. GIVEN WITH THE SEED: THE CARDS: each row of YtnmdmhokdcmhcabGreatDoorRows.lean that lists a variable, with what it lists TIED to the program's text (the seventh form; the later family's looks); each row that meets fmt, with fmt's text TOLD by the authors' own Lean function (tested against real Go, not proved from fmt's source: count such statements apart). THE CARD IS WHAT COUNTS. Prove the row's statement (the work); the ties are given (YtnmdmhokdcmhcabGreatDoorTie.lean); close each card by the builder's one call (the guide's Derived/Test/ToyasCard.lean, 'card_holds'). Laid BY PROGRAM, IN A SANDBOX (cutbox-door.mjs). By AI agents, Wed Nov 11 2026. No macro, syntax, notation, axiom, sorry.
-/
import Derived.Test.YtnmdmhokdcmhcabGreatDoorRows
import GoSem.ClaimSeven
namespace Go.Proofs.YtnmdmhokdcmhcabGreatDoor
namespace Rows

/-- THE TIED CARD OF 'laws.FnExactPlainDir'. -/
def fnExactPlainDirCard : Claim7 := { stood := { row := fnExactPlainDirRow, standIns := [], harness := (true, "c88e396da0221a501e021ce483594b3e892e724bcf9d95d97306670a1f133f77"), looks := true }, kinds := [], alts := [], laidByText := true, laidKinds := [.sentinel, .sentinel, .sentinel, .sentinel, .sentinel, .sentinel], laidTests := true, laidLooks := .later }
def FnExactPlainDirCardSaid : Prop := Claim7.holds Tryz.pinned (.plain (OpenSpec.ofChange fnExactPlainDirSpec)) fnExactPlainDirCard

/-- THE TIED CARD OF 'laws.FnExactPlainWrite'. -/
def fnExactPlainWriteCard : Claim7 := { stood := { row := fnExactPlainWriteRow, standIns := [], harness := (true, "c88e396da0221a501e021ce483594b3e892e724bcf9d95d97306670a1f133f77"), looks := true }, kinds := [], alts := [], laidByText := true, laidKinds := [.sentinel, .sentinel, .sentinel, .sentinel, .sentinel, .sentinel], laidTests := true, laidLooks := .later }
def FnExactPlainWriteCardSaid : Prop := Claim7.holds Tryz.pinned (.plain (OpenSpec.ofChange fnExactPlainWriteSpec)) fnExactPlainWriteCard

/-- THE SECOND FORM's CARD OF 'laws.FnExactPlainDir'. -/
def fnExactPlainDirUptoCard : Claim7 := { stood := { row := fnExactPlainDirUptoRow, standIns := [], harness := (true, "c88e396da0221a501e021ce483594b3e892e724bcf9d95d97306670a1f133f77"), looks := true }, kinds := [], alts := [], laidByText := true, laidKinds := [.sentinel, .sentinel, .sentinel, .sentinel, .sentinel, .sentinel], laidTests := true, laidLooks := .later }
def FnExactPlainDirUptoCardSaid : Prop := Claim7.holds Tryz.pinned (.plain (OpenSpec.upto fnExactPlainDirSpec)) fnExactPlainDirUptoCard

/-- THE SECOND FORM's CARD OF 'laws.FnExactPlainWrite'. -/
def fnExactPlainWriteUptoCard : Claim7 := { stood := { row := fnExactPlainWriteUptoRow, standIns := [], harness := (true, "c88e396da0221a501e021ce483594b3e892e724bcf9d95d97306670a1f133f77"), looks := true }, kinds := [], alts := [], laidByText := true, laidKinds := [.sentinel, .sentinel, .sentinel, .sentinel, .sentinel, .sentinel], laidTests := true, laidLooks := .later }
def FnExactPlainWriteUptoCardSaid : Prop := Claim7.holds Tryz.pinned (.plain (OpenSpec.upto fnExactPlainWriteSpec)) fnExactPlainWriteUptoCard
end Rows
end Go.Proofs.YtnmdmhokdcmhcabGreatDoor
