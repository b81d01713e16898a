/-
  DERIVED. GIVEN WITH THE SEED: THE CARDS: each row of YtmmomfnejkjkjaaGreatDoorRows.lean that lists a variable, with what it lists TIED to the program's text (the seventh form; the later family's looks); each row that meets fmt, with fmt's text TOLD by the authors' own Lean function (tested against real Go, not proved from fmt's source: count such statements apart). THE CARD IS WHAT COUNTS. Prove the row's statement (the work); the ties are given (YtmmomfnejkjkjaaGreatDoorTie.lean); close each card by the builder's one call (the guide's Derived/Test/ToyasCard.lean, 'card_holds'). Laid BY PROGRAM, IN A SANDBOX (cutbox-door.mjs). By AI agents, Wed Nov 11 2026. No macro, syntax, notation, axiom, sorry.
-/
import Derived.Test.YtmmomfnejkjkjaaGreatDoorRows
import GoSem.ClaimSeven
namespace Go.Proofs.YtmmomfnejkjkjaaGreatDoor
namespace Rows

/-- THE TIED CARD OF 'laws.FnExactOver'. -/
def fnExactOverCard : Claim7 := { stood := { row := fnExactOverRow, standIns := [], harness := (true, "c0bc4c11cfe440adbe1c9d4bc59dd265ded2da3f7ec465bb2ef0069e4dc61a4e"), looks := true }, kinds := [], alts := [], laidByText := true, laidKinds := [.sentinel, .sentinel, .sentinel, .sentinel, .sentinel, .sentinel], laidTests := true, laidLooks := .later }
def FnExactOverCardSaid : Prop := Claim7.holds Tryz.pinned (.plain (OpenSpec.ofChange fnExactOverSpec)) fnExactOverCard

/-- THE TIED CARD OF 'laws.FnExactView'. -/
def fnExactViewCard : Claim7 := { stood := { row := fnExactViewRow, standIns := [], harness := (true, "c0bc4c11cfe440adbe1c9d4bc59dd265ded2da3f7ec465bb2ef0069e4dc61a4e"), looks := true }, kinds := [], alts := [], laidByText := true, laidKinds := [.sentinel, .sentinel, .sentinel, .sentinel, .sentinel, .sentinel], laidTests := true, laidLooks := .later }
def FnExactViewCardSaid : Prop := Claim7.holds Tryz.pinned (.plain (OpenSpec.ofChange fnExactViewSpec)) fnExactViewCard

/-- THE TIED CARD OF 'laws.FnExactSight'. -/
def fnExactSightCard : Claim7 := { stood := { row := fnExactSightRow, standIns := [], harness := (true, "c0bc4c11cfe440adbe1c9d4bc59dd265ded2da3f7ec465bb2ef0069e4dc61a4e"), looks := true }, kinds := [], alts := [], laidByText := true, laidKinds := [.sentinel, .sentinel, .sentinel, .sentinel, .sentinel, .sentinel], laidTests := true, laidLooks := .later }
def FnExactSightCardSaid : Prop := Claim7.holds Tryz.pinned (.plain (OpenSpec.ofChange fnExactSightSpec)) fnExactSightCard

/-- THE SECOND FORM's CARD OF 'laws.FnExactOver'. -/
def fnExactOverUptoCard : Claim7 := { stood := { row := fnExactOverUptoRow, standIns := [], harness := (true, "c0bc4c11cfe440adbe1c9d4bc59dd265ded2da3f7ec465bb2ef0069e4dc61a4e"), looks := true }, kinds := [], alts := [], laidByText := true, laidKinds := [.sentinel, .sentinel, .sentinel, .sentinel, .sentinel, .sentinel], laidTests := true, laidLooks := .later }
def FnExactOverUptoCardSaid : Prop := Claim7.holds Tryz.pinned (.plain (OpenSpec.upto fnExactOverSpec)) fnExactOverUptoCard

/-- THE SECOND FORM's CARD OF 'laws.FnExactView'. -/
def fnExactViewUptoCard : Claim7 := { stood := { row := fnExactViewUptoRow, standIns := [], harness := (true, "c0bc4c11cfe440adbe1c9d4bc59dd265ded2da3f7ec465bb2ef0069e4dc61a4e"), looks := true }, kinds := [], alts := [], laidByText := true, laidKinds := [.sentinel, .sentinel, .sentinel, .sentinel, .sentinel, .sentinel], laidTests := true, laidLooks := .later }
def FnExactViewUptoCardSaid : Prop := Claim7.holds Tryz.pinned (.plain (OpenSpec.upto fnExactViewSpec)) fnExactViewUptoCard

/-- THE SECOND FORM's CARD OF 'laws.FnExactSight'. -/
def fnExactSightUptoCard : Claim7 := { stood := { row := fnExactSightUptoRow, standIns := [], harness := (true, "c0bc4c11cfe440adbe1c9d4bc59dd265ded2da3f7ec465bb2ef0069e4dc61a4e"), looks := true }, kinds := [], alts := [], laidByText := true, laidKinds := [.sentinel, .sentinel, .sentinel, .sentinel, .sentinel, .sentinel], laidTests := true, laidLooks := .later }
def FnExactSightUptoCardSaid : Prop := Claim7.holds Tryz.pinned (.plain (OpenSpec.upto fnExactSightSpec)) fnExactSightUptoCard
end Rows
end Go.Proofs.YtmmomfnejkjkjaaGreatDoor
