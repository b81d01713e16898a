/-
  DERIVED. GIVEN WITH THE SEED: THE CARDS: each row of YtfdbokipgofcdaaGreatDoorRows.lean that lists a variable, with what it lists TIED to the program's text (the seventh form; the later family's looks); each row that meets fmt, with fmt's text TOLD by the authors' own Lean function (tested against real Go, not proved from fmt's source: count such statements apart). THE CARD IS WHAT COUNTS. Prove the row's statement (the work); the ties are given (YtfdbokipgofcdaaGreatDoorTie.lean); close each card by the builder's one call (the guide's Derived/Test/ToyasCard.lean, 'card_holds'). Laid BY PROGRAM, IN A SANDBOX (cutbox-door.mjs). By AI agents, Wed Nov 11 2026. No macro, syntax, notation, axiom, sorry.
-/
import Derived.Test.YtfdbokipgofcdaaGreatDoorRows
import GoSem.ClaimSeven
namespace Go.Proofs.YtfdbokipgofcdaaGreatDoor
namespace Rows

/-- THE TIED CARD OF 'laws.FnNest'. -/
def fnNestCard : Claim7 := { stood := { row := fnNestRow, standIns := [], harness := (true, "c7ca376756a935a93434952d4d02f33e3ad99104f4cdc61f0c978f851dd1e2d5"), looks := true }, kinds := [], alts := [], laidByText := true, laidKinds := [.sentinel, .sentinel, .sentinel, .sentinel], laidTests := true, laidLooks := .later }
def FnNestCardSaid : Prop := Claim7.holds Tryz.pinned (.plain (OpenSpec.ofChange fnNestSpec)) fnNestCard

/-- THE TIED CARD OF 'laws.FnFlatter'. -/
def fnFlatterCard : Claim7 := { stood := { row := fnFlatterRow, standIns := [], harness := (true, "c7ca376756a935a93434952d4d02f33e3ad99104f4cdc61f0c978f851dd1e2d5"), looks := true }, kinds := [], alts := [], laidByText := true, laidKinds := [.sentinel, .sentinel, .sentinel, .sentinel, .sentinel, .sentinel], laidTests := true, laidLooks := .later }
def FnFlatterCardSaid : Prop := Claim7.holds Tryz.pinned (.plain (OpenSpec.ofChange fnFlatterSpec)) fnFlatterCard

/-- THE SECOND FORM's CARD OF 'laws.FnNest'. -/
def fnNestUptoCard : Claim7 := { stood := { row := fnNestUptoRow, standIns := [], harness := (true, "c7ca376756a935a93434952d4d02f33e3ad99104f4cdc61f0c978f851dd1e2d5"), looks := true }, kinds := [], alts := [], laidByText := true, laidKinds := [.sentinel, .sentinel, .sentinel, .sentinel], laidTests := true, laidLooks := .later }
def FnNestUptoCardSaid : Prop := Claim7.holds Tryz.pinned (.plain (OpenSpec.upto fnNestSpec)) fnNestUptoCard

/-- THE SECOND FORM's CARD OF 'laws.FnFlatter'. -/
def fnFlatterUptoCard : Claim7 := { stood := { row := fnFlatterUptoRow, standIns := [], harness := (true, "c7ca376756a935a93434952d4d02f33e3ad99104f4cdc61f0c978f851dd1e2d5"), looks := true }, kinds := [], alts := [], laidByText := true, laidKinds := [.sentinel, .sentinel, .sentinel, .sentinel, .sentinel, .sentinel], laidTests := true, laidLooks := .later }
def FnFlatterUptoCardSaid : Prop := Claim7.holds Tryz.pinned (.plain (OpenSpec.upto fnFlatterSpec)) fnFlatterUptoCard
end Rows
end Go.Proofs.YtfdbokipgofcdaaGreatDoor
