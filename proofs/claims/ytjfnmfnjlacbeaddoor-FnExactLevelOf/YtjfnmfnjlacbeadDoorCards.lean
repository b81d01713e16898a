/-
  DERIVED. GIVEN WITH THE SEED: THE CARDS: each row of YtjfnmfnjlacbeadDoorRows.lean that lists a variable, with what it lists TIED to the program's text (the seventh form; the later family's looks); each row that meets fmt, with fmt's text TOLD by the authors' own Lean function (tested against real Go, not proved from fmt's source: count such statements apart). THE CARD IS WHAT COUNTS. Prove the row's statement (the work); the ties are given (YtjfnmfnjlacbeadDoorTie.lean); close each card by the builder's one call (the guide's Derived/Test/ToyasCard.lean, 'card_holds'). Laid BY PROGRAM, IN A SANDBOX (cutbox-door.mjs). By AI agents, Wed Nov 11 2026. No macro, syntax, notation, axiom, sorry.
-/
import Derived.Test.YtjfnmfnjlacbeadDoorRows
import GoSem.ClaimSeven
namespace Go.Proofs.YtjfnmfnjlacbeadDoor
namespace Rows

/-- THE TIED CARD OF 'laws.FnExactNestRight'. -/
def fnExactNestRightCard : Claim7 := { stood := { row := fnExactNestRightRow, standIns := [], harness := (true, "cac4ba8f569242d92356fbd5574f193ea7726f1453ceb1e62d23c009f003b1d0"), looks := false }, kinds := [], alts := [], laidByText := true, laidKinds := [.sentinel, .sentinel, .sentinel, .sentinel], laidTests := true, laidLooks := .later }
def FnExactNestRightCardSaid : Prop := Claim7.holds Tryd.pinned (.plain (OpenSpec.ofChange fnExactNestRightSpec)) fnExactNestRightCard

/-- THE TIED CARD OF 'laws.FnExactNestDepth'. -/
def fnExactNestDepthCard : Claim7 := { stood := { row := fnExactNestDepthRow, standIns := [], harness := (true, "cac4ba8f569242d92356fbd5574f193ea7726f1453ceb1e62d23c009f003b1d0"), looks := false }, kinds := [], alts := [], laidByText := true, laidKinds := [.sentinel, .sentinel, .sentinel, .sentinel], laidTests := true, laidLooks := .later }
def FnExactNestDepthCardSaid : Prop := Claim7.holds Tryd.pinned (.plain (OpenSpec.ofChange fnExactNestDepthSpec)) fnExactNestDepthCard

/-- THE TIED CARD OF 'laws.FnExactLeaves'. -/
def fnExactLeavesCard : Claim7 := { stood := { row := fnExactLeavesRow, standIns := [], harness := (true, "cac4ba8f569242d92356fbd5574f193ea7726f1453ceb1e62d23c009f003b1d0"), looks := false }, kinds := [], alts := [], laidByText := true, laidKinds := [.sentinel, .sentinel, .sentinel, .sentinel], laidTests := true, laidLooks := .later }
def FnExactLeavesCardSaid : Prop := Claim7.holds Tryd.pinned (.plain (OpenSpec.ofChange fnExactLeavesSpec)) fnExactLeavesCard

/-- THE TIED CARD OF 'laws.FnExactFirstLeaf'. -/
def fnExactFirstLeafCard : Claim7 := { stood := { row := fnExactFirstLeafRow, standIns := [], harness := (true, "cac4ba8f569242d92356fbd5574f193ea7726f1453ceb1e62d23c009f003b1d0"), looks := false }, kinds := [], alts := [], laidByText := true, laidKinds := [.sentinel, .sentinel, .sentinel, .sentinel], laidTests := true, laidLooks := .later }
def FnExactFirstLeafCardSaid : Prop := Claim7.holds Tryd.pinned (.plain (OpenSpec.ofChange fnExactFirstLeafSpec)) fnExactFirstLeafCard

/-- THE TIED CARD OF 'laws.FnExactLevelOf'. -/
def fnExactLevelOfCard : Claim7 := { stood := { row := fnExactLevelOfRow, standIns := [], harness := (true, "cac4ba8f569242d92356fbd5574f193ea7726f1453ceb1e62d23c009f003b1d0"), looks := false }, kinds := [], alts := [], laidByText := true, laidKinds := [.sentinel, .sentinel, .sentinel, .sentinel], laidTests := true, laidLooks := .later }
def FnExactLevelOfCardSaid : Prop := Claim7.holds Tryd.pinned (.plain (OpenSpec.ofChange fnExactLevelOfSpec)) fnExactLevelOfCard

/-- THE SECOND FORM's CARD OF 'laws.FnExactNestRight'. -/
def fnExactNestRightUptoCard : Claim7 := { stood := { row := fnExactNestRightUptoRow, standIns := [], harness := (true, "cac4ba8f569242d92356fbd5574f193ea7726f1453ceb1e62d23c009f003b1d0"), looks := false }, kinds := [], alts := [], laidByText := true, laidKinds := [.sentinel, .sentinel, .sentinel, .sentinel], laidTests := true, laidLooks := .later }
def FnExactNestRightUptoCardSaid : Prop := Claim7.holds Tryd.pinned (.plain (OpenSpec.upto fnExactNestRightSpec)) fnExactNestRightUptoCard

/-- THE SECOND FORM's CARD OF 'laws.FnExactNestDepth'. -/
def fnExactNestDepthUptoCard : Claim7 := { stood := { row := fnExactNestDepthUptoRow, standIns := [], harness := (true, "cac4ba8f569242d92356fbd5574f193ea7726f1453ceb1e62d23c009f003b1d0"), looks := false }, kinds := [], alts := [], laidByText := true, laidKinds := [.sentinel, .sentinel, .sentinel, .sentinel], laidTests := true, laidLooks := .later }
def FnExactNestDepthUptoCardSaid : Prop := Claim7.holds Tryd.pinned (.plain (OpenSpec.upto fnExactNestDepthSpec)) fnExactNestDepthUptoCard

/-- THE SECOND FORM's CARD OF 'laws.FnExactLeaves'. -/
def fnExactLeavesUptoCard : Claim7 := { stood := { row := fnExactLeavesUptoRow, standIns := [], harness := (true, "cac4ba8f569242d92356fbd5574f193ea7726f1453ceb1e62d23c009f003b1d0"), looks := false }, kinds := [], alts := [], laidByText := true, laidKinds := [.sentinel, .sentinel, .sentinel, .sentinel], laidTests := true, laidLooks := .later }
def FnExactLeavesUptoCardSaid : Prop := Claim7.holds Tryd.pinned (.plain (OpenSpec.upto fnExactLeavesSpec)) fnExactLeavesUptoCard

/-- THE SECOND FORM's CARD OF 'laws.FnExactFirstLeaf'. -/
def fnExactFirstLeafUptoCard : Claim7 := { stood := { row := fnExactFirstLeafUptoRow, standIns := [], harness := (true, "cac4ba8f569242d92356fbd5574f193ea7726f1453ceb1e62d23c009f003b1d0"), looks := false }, kinds := [], alts := [], laidByText := true, laidKinds := [.sentinel, .sentinel, .sentinel, .sentinel], laidTests := true, laidLooks := .later }
def FnExactFirstLeafUptoCardSaid : Prop := Claim7.holds Tryd.pinned (.plain (OpenSpec.upto fnExactFirstLeafSpec)) fnExactFirstLeafUptoCard

/-- THE SECOND FORM's CARD OF 'laws.FnExactLevelOf'. -/
def fnExactLevelOfUptoCard : Claim7 := { stood := { row := fnExactLevelOfUptoRow, standIns := [], harness := (true, "cac4ba8f569242d92356fbd5574f193ea7726f1453ceb1e62d23c009f003b1d0"), looks := false }, kinds := [], alts := [], laidByText := true, laidKinds := [.sentinel, .sentinel, .sentinel, .sentinel], laidTests := true, laidLooks := .later }
def FnExactLevelOfUptoCardSaid : Prop := Claim7.holds Tryd.pinned (.plain (OpenSpec.upto fnExactLevelOfSpec)) fnExactLevelOfUptoCard
end Rows
end Go.Proofs.YtjfnmfnjlacbeadDoor
