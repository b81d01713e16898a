/-
  DERIVED. GIVEN WITH THE SEED: THE CARDS: each row of YtonffldjbmednaaGreatDoorRows.lean that lists a variable, with what it lists TIED to the program's text (the seventh form; the later family's looks); each row that meets fmt, with fmt's text TOLD by the authors' own Lean function (tested against real Go, not proved from fmt's source: count such statements apart). THE CARD IS WHAT COUNTS. Prove the row's statement (the work); the ties are given (YtonffldjbmednaaGreatDoorTie.lean); close each card by the builder's one call (the guide's Derived/Test/ToyasCard.lean, 'card_holds'). Laid BY PROGRAM, IN A SANDBOX (cutbox-door.mjs). By AI agents, Wed Nov 11 2026. No macro, syntax, notation, axiom, sorry.
-/
import Derived.Test.YtonffldjbmednaaGreatDoorRows
import GoSem.ClaimSeven
namespace Go.Proofs.YtonffldjbmednaaGreatDoor
namespace Rows

/-- THE TIED CARD OF 'laws.FnExactWhere'. -/
def fnExactWhereCard : Claim7 := { stood := { row := fnExactWhereRow, standIns := [], harness := (true, "d396622bd0c37bb578f88e9b41f6de5d8b9fb0f3ea6f19341050ff9be40f13ae"), looks := false }, kinds := [], alts := [], laidByText := true, laidKinds := [.sentinel, .sentinel, .sentinel, .sentinel, .data], laidTests := true, laidLooks := .later }
def FnExactWhereCardSaid : Prop := Claim7.holds Tryz.pinned (.plain (OpenSpec.ofChange fnExactWhereSpec)) fnExactWhereCard

/-- THE TIED CARD OF 'laws.FnExactUnmount'. -/
def fnExactUnmountCard : Claim7 := { stood := { row := fnExactUnmountRow, standIns := [], harness := (true, "d396622bd0c37bb578f88e9b41f6de5d8b9fb0f3ea6f19341050ff9be40f13ae"), looks := false }, kinds := [], alts := [], laidByText := true, laidKinds := [.sentinel, .sentinel, .sentinel, .sentinel, .data], laidTests := true, laidLooks := .later }
def FnExactUnmountCardSaid : Prop := Claim7.holds Tryz.pinned (.plain (OpenSpec.ofChange fnExactUnmountSpec)) fnExactUnmountCard

/-- THE TIED CARD OF 'laws.FnExactDetach'. -/
def fnExactDetachCard : Claim7 := { stood := { row := fnExactDetachRow, standIns := [], harness := (true, "d396622bd0c37bb578f88e9b41f6de5d8b9fb0f3ea6f19341050ff9be40f13ae"), looks := false }, kinds := [], alts := [], laidByText := true, laidKinds := [.sentinel, .sentinel, .sentinel, .sentinel, .data], laidTests := true, laidLooks := .later }
def FnExactDetachCardSaid : Prop := Claim7.holds Tryz.pinned (.plain (OpenSpec.ofChange fnExactDetachSpec)) fnExactDetachCard

/-- THE TIED CARD OF 'laws.FnExactClose'. -/
def fnExactCloseCard : Claim7 := { stood := { row := fnExactCloseRow, standIns := [], harness := (true, "d396622bd0c37bb578f88e9b41f6de5d8b9fb0f3ea6f19341050ff9be40f13ae"), looks := false }, kinds := [], alts := [], laidByText := true, laidKinds := [.sentinel, .sentinel, .sentinel, .sentinel, .data], laidTests := true, laidLooks := .later }
def FnExactCloseCardSaid : Prop := Claim7.holds Tryz.pinned (.plain (OpenSpec.ofChange fnExactCloseSpec)) fnExactCloseCard

/-- THE SECOND FORM's CARD OF 'laws.FnExactWhere'. -/
def fnExactWhereUptoCard : Claim7 := { stood := { row := fnExactWhereUptoRow, standIns := [], harness := (true, "d396622bd0c37bb578f88e9b41f6de5d8b9fb0f3ea6f19341050ff9be40f13ae"), looks := false }, kinds := [], alts := [], laidByText := true, laidKinds := [.sentinel, .sentinel, .sentinel, .sentinel, .data], laidTests := true, laidLooks := .later }
def FnExactWhereUptoCardSaid : Prop := Claim7.holds Tryz.pinned (.plain (OpenSpec.upto fnExactWhereSpec)) fnExactWhereUptoCard

/-- THE SECOND FORM's CARD OF 'laws.FnExactUnmount'. -/
def fnExactUnmountUptoCard : Claim7 := { stood := { row := fnExactUnmountUptoRow, standIns := [], harness := (true, "d396622bd0c37bb578f88e9b41f6de5d8b9fb0f3ea6f19341050ff9be40f13ae"), looks := false }, kinds := [], alts := [], laidByText := true, laidKinds := [.sentinel, .sentinel, .sentinel, .sentinel, .data], laidTests := true, laidLooks := .later }
def FnExactUnmountUptoCardSaid : Prop := Claim7.holds Tryz.pinned (.plain (OpenSpec.upto fnExactUnmountSpec)) fnExactUnmountUptoCard

/-- THE SECOND FORM's CARD OF 'laws.FnExactDetach'. -/
def fnExactDetachUptoCard : Claim7 := { stood := { row := fnExactDetachUptoRow, standIns := [], harness := (true, "d396622bd0c37bb578f88e9b41f6de5d8b9fb0f3ea6f19341050ff9be40f13ae"), looks := false }, kinds := [], alts := [], laidByText := true, laidKinds := [.sentinel, .sentinel, .sentinel, .sentinel, .data], laidTests := true, laidLooks := .later }
def FnExactDetachUptoCardSaid : Prop := Claim7.holds Tryz.pinned (.plain (OpenSpec.upto fnExactDetachSpec)) fnExactDetachUptoCard

/-- THE SECOND FORM's CARD OF 'laws.FnExactClose'. -/
def fnExactCloseUptoCard : Claim7 := { stood := { row := fnExactCloseUptoRow, standIns := [], harness := (true, "d396622bd0c37bb578f88e9b41f6de5d8b9fb0f3ea6f19341050ff9be40f13ae"), looks := false }, kinds := [], alts := [], laidByText := true, laidKinds := [.sentinel, .sentinel, .sentinel, .sentinel, .data], laidTests := true, laidLooks := .later }
def FnExactCloseUptoCardSaid : Prop := Claim7.holds Tryz.pinned (.plain (OpenSpec.upto fnExactCloseSpec)) fnExactCloseUptoCard
end Rows
end Go.Proofs.YtonffldjbmednaaGreatDoor
