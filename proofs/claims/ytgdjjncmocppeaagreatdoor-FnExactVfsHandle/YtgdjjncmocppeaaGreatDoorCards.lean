/-
  DERIVED. GIVEN WITH THE SEED: THE CARDS: each row of YtgdjjncmocppeaaGreatDoorRows.lean that lists a variable, with what it lists TIED to the program's text (the seventh form; the later family's looks); each row that meets fmt, with fmt's text TOLD by the authors' own Lean function (tested against real Go, not proved from fmt's source: count such statements apart). THE CARD IS WHAT COUNTS. Prove the row's statement (the work); the ties are given (YtgdjjncmocppeaaGreatDoorTie.lean); close each card by the builder's one call (the guide's Derived/Test/ToyasCard.lean, 'card_holds'). Laid BY PROGRAM, IN A SANDBOX (cutbox-door.mjs). By AI agents, Wed Nov 11 2026. No macro, syntax, notation, axiom, sorry.
-/
import Derived.Test.YtgdjjncmocppeaaGreatDoorRows
import GoSem.ClaimSeven
namespace Go.Proofs.YtgdjjncmocppeaaGreatDoor
namespace Rows

/-- THE TIED CARD OF 'laws.FnExactVfsRead'. -/
def fnExactVfsReadCard : Claim7 := { stood := { row := fnExactVfsReadRow, standIns := [], harness := (true, "c06dfed885014a43b5f716dd54e3271529cc30249b95522c12057f4d804c2179"), looks := true }, kinds := [], alts := [], laidByText := true, laidKinds := [.handle, .sentinel, .sentinel, .sentinel, .sentinel, .data], laidTests := true, laidLooks := .later }
def FnExactVfsReadCardSaid : Prop := Claim7.holds Tryz.pinned (.plain (OpenSpec.ofChange fnExactVfsReadSpec)) fnExactVfsReadCard

/-- THE TIED CARD OF 'laws.FnExactVfsHandle'. -/
def fnExactVfsHandleCard : Claim7 := { stood := { row := fnExactVfsHandleRow, standIns := [], harness := (true, "c06dfed885014a43b5f716dd54e3271529cc30249b95522c12057f4d804c2179"), looks := true }, kinds := [], alts := [], laidByText := true, laidKinds := [.handle, .sentinel, .sentinel, .sentinel, .sentinel], laidTests := true, laidLooks := .later }
def FnExactVfsHandleCardSaid : Prop := Claim7.holds Tryz.pinned (.plain (OpenSpec.ofChange fnExactVfsHandleSpec)) fnExactVfsHandleCard

/-- THE SECOND FORM's CARD OF 'laws.FnExactVfsRead'. -/
def fnExactVfsReadUptoCard : Claim7 := { stood := { row := fnExactVfsReadUptoRow, standIns := [], harness := (true, "c06dfed885014a43b5f716dd54e3271529cc30249b95522c12057f4d804c2179"), looks := true }, kinds := [], alts := [], laidByText := true, laidKinds := [.handle, .sentinel, .sentinel, .sentinel, .sentinel, .data], laidTests := true, laidLooks := .later }
def FnExactVfsReadUptoCardSaid : Prop := Claim7.holds Tryz.pinned (.plain (OpenSpec.upto fnExactVfsReadSpec)) fnExactVfsReadUptoCard

/-- THE SECOND FORM's CARD OF 'laws.FnExactVfsHandle'. -/
def fnExactVfsHandleUptoCard : Claim7 := { stood := { row := fnExactVfsHandleUptoRow, standIns := [], harness := (true, "c06dfed885014a43b5f716dd54e3271529cc30249b95522c12057f4d804c2179"), looks := true }, kinds := [], alts := [], laidByText := true, laidKinds := [.handle, .sentinel, .sentinel, .sentinel, .sentinel], laidTests := true, laidLooks := .later }
def FnExactVfsHandleUptoCardSaid : Prop := Claim7.holds Tryz.pinned (.plain (OpenSpec.upto fnExactVfsHandleSpec)) fnExactVfsHandleUptoCard
end Rows
end Go.Proofs.YtgdjjncmocppeaaGreatDoor
