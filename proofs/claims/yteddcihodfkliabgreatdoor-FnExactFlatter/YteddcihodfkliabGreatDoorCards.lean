/-
  DERIVED. GIVEN WITH THE SEED: THE CARDS: each row of YteddcihodfkliabGreatDoorRows.lean that lists a variable, with what it lists TIED to the program's text (the seventh form; the later family's looks); each row that meets fmt, with fmt's text TOLD by the authors' own Lean function (tested against real Go, not proved from fmt's source: count such statements apart). THE CARD IS WHAT COUNTS. Prove the row's statement (the work); the ties are given (YteddcihodfkliabGreatDoorTie.lean); close each card by the builder's one call (the guide's Derived/Test/ToyasCard.lean, 'card_holds'). Laid BY PROGRAM, IN A SANDBOX (cutbox-door.mjs). By AI agents, Wed Nov 11 2026. No macro, syntax, notation, axiom, sorry.
-/
import Derived.Test.YteddcihodfkliabGreatDoorRows
import GoSem.ClaimSeven
namespace Go.Proofs.YteddcihodfkliabGreatDoor
namespace Rows

/-- THE TIED CARD OF 'laws.FnExactWalkNames'. -/
def fnExactWalkNamesCard : Claim7 := { stood := { row := fnExactWalkNamesRow, standIns := [], harness := (true, "ebf3d8739b11999f6b6acc378a7a507d1bf7faa9bcb297a2cecc59c8cf74794d"), looks := true }, kinds := [], alts := [], laidByText := true, laidKinds := [.sentinel, .sentinel, .sentinel, .sentinel], laidTests := true, laidLooks := .later }
def FnExactWalkNamesCardSaid : Prop := Claim7.holds Tryz.pinned (.plain (OpenSpec.ofChange fnExactWalkNamesSpec)) fnExactWalkNamesCard

/-- THE TIED CARD OF 'laws.FnExactFlatter'. -/
def fnExactFlatterCard : Claim7 := { stood := { row := fnExactFlatterRow, standIns := [], harness := (true, "ebf3d8739b11999f6b6acc378a7a507d1bf7faa9bcb297a2cecc59c8cf74794d"), looks := true }, kinds := [], alts := [], laidByText := true, laidKinds := [.sentinel, .sentinel, .sentinel, .sentinel, .sentinel, .sentinel], laidTests := true, laidLooks := .later }
def FnExactFlatterCardSaid : Prop := Claim7.holds Tryz.pinned (.plain (OpenSpec.ofChange fnExactFlatterSpec)) fnExactFlatterCard

/-- THE TIED CARD OF 'laws.FnExactCanFlatter'. -/
def fnExactCanFlatterCard : Claim7 := { stood := { row := fnExactCanFlatterRow, standIns := [], harness := (true, "ebf3d8739b11999f6b6acc378a7a507d1bf7faa9bcb297a2cecc59c8cf74794d"), looks := true }, kinds := [], alts := [], laidByText := true, laidKinds := [.sentinel, .sentinel, .sentinel, .sentinel, .sentinel, .sentinel], laidTests := true, laidLooks := .later }
def FnExactCanFlatterCardSaid : Prop := Claim7.holds Tryz.pinned (.plain (OpenSpec.ofChange fnExactCanFlatterSpec)) fnExactCanFlatterCard

/-- THE SECOND FORM's CARD OF 'laws.FnExactWalkNames'. -/
def fnExactWalkNamesUptoCard : Claim7 := { stood := { row := fnExactWalkNamesUptoRow, standIns := [], harness := (true, "ebf3d8739b11999f6b6acc378a7a507d1bf7faa9bcb297a2cecc59c8cf74794d"), looks := true }, kinds := [], alts := [], laidByText := true, laidKinds := [.sentinel, .sentinel, .sentinel, .sentinel], laidTests := true, laidLooks := .later }
def FnExactWalkNamesUptoCardSaid : Prop := Claim7.holds Tryz.pinned (.plain (OpenSpec.upto fnExactWalkNamesSpec)) fnExactWalkNamesUptoCard

/-- THE SECOND FORM's CARD OF 'laws.FnExactFlatter'. -/
def fnExactFlatterUptoCard : Claim7 := { stood := { row := fnExactFlatterUptoRow, standIns := [], harness := (true, "ebf3d8739b11999f6b6acc378a7a507d1bf7faa9bcb297a2cecc59c8cf74794d"), looks := true }, kinds := [], alts := [], laidByText := true, laidKinds := [.sentinel, .sentinel, .sentinel, .sentinel, .sentinel, .sentinel], laidTests := true, laidLooks := .later }
def FnExactFlatterUptoCardSaid : Prop := Claim7.holds Tryz.pinned (.plain (OpenSpec.upto fnExactFlatterSpec)) fnExactFlatterUptoCard

/-- THE SECOND FORM's CARD OF 'laws.FnExactCanFlatter'. -/
def fnExactCanFlatterUptoCard : Claim7 := { stood := { row := fnExactCanFlatterUptoRow, standIns := [], harness := (true, "ebf3d8739b11999f6b6acc378a7a507d1bf7faa9bcb297a2cecc59c8cf74794d"), looks := true }, kinds := [], alts := [], laidByText := true, laidKinds := [.sentinel, .sentinel, .sentinel, .sentinel, .sentinel, .sentinel], laidTests := true, laidLooks := .later }
def FnExactCanFlatterUptoCardSaid : Prop := Claim7.holds Tryz.pinned (.plain (OpenSpec.upto fnExactCanFlatterSpec)) fnExactCanFlatterUptoCard
end Rows
end Go.Proofs.YteddcihodfkliabGreatDoor
