/-
  DERIVED. GIVEN WITH THE SEED: THE CARDS: each row of YtopipjfomnnjcakDoorRows.lean that lists a variable, with what it lists TIED to the program's text (the seventh form; the later family's looks); each row that meets fmt, with fmt's text TOLD by the authors' own Lean function (tested against real Go, not proved from fmt's source: count such statements apart). THE CARD IS WHAT COUNTS. Prove the row's statement (the work); the ties are given (YtopipjfomnnjcakDoorTie.lean); close each card by the builder's one call (the guide's Derived/Test/ToyasCard.lean, 'card_holds'). Laid BY PROGRAM, IN A SANDBOX (cutbox-door.mjs). By AI agents, Wed Nov 11 2026. No macro, syntax, notation, axiom, sorry.
-/
import Derived.Test.YtopipjfomnnjcakDoorRows
import GoSem.ClaimSeven
namespace Go.Proofs.YtopipjfomnnjcakDoor
namespace Rows

/-- THE TIED CARD OF 'laws.FnExactPlainOf'. -/
def fnExactPlainOfCard : Claim7 := { stood := { row := fnExactPlainOfRow, standIns := [], harness := (true, "e91d67be2f3ce7a4c15f524a1a96c7a1d0f3c097a844b00f270e6f872d5d97e9"), looks := false }, kinds := [], alts := [], laidByText := true, laidKinds := [.sentinel, .sentinel, .sentinel], laidTests := true, laidLooks := .later }
def FnExactPlainOfCardSaid : Prop := Claim7.holds Tryd.pinned (.plain (OpenSpec.ofChange fnExactPlainOfSpec)) fnExactPlainOfCard

/-- THE TIED CARD OF 'laws.FnExactSeenAt'. -/
def fnExactSeenAtCard : Claim7 := { stood := { row := fnExactSeenAtRow, standIns := [], harness := (true, "e91d67be2f3ce7a4c15f524a1a96c7a1d0f3c097a844b00f270e6f872d5d97e9"), looks := false }, kinds := [], alts := [], laidByText := true, laidKinds := [.sentinel, .sentinel, .sentinel], laidTests := true, laidLooks := .later }
def FnExactSeenAtCardSaid : Prop := Claim7.holds Tryd.pinned (.plain (OpenSpec.ofChange fnExactSeenAtSpec)) fnExactSeenAtCard

/-- THE TIED CARD OF 'laws.FnExactLayersOf'. -/
def fnExactLayersOfCard : Claim7 := { stood := { row := fnExactLayersOfRow, standIns := [], harness := (true, "e91d67be2f3ce7a4c15f524a1a96c7a1d0f3c097a844b00f270e6f872d5d97e9"), looks := false }, kinds := [], alts := [], laidByText := true, laidKinds := [.sentinel, .sentinel, .sentinel], laidTests := true, laidLooks := .later }
def FnExactLayersOfCardSaid : Prop := Claim7.holds Tryd.pinned (.plain (OpenSpec.ofChange fnExactLayersOfSpec)) fnExactLayersOfCard

/-- THE TIED CARD OF 'laws.FnExactNestRight'. -/
def fnExactNestRightCard : Claim7 := { stood := { row := fnExactNestRightRow, standIns := [], harness := (true, "e91d67be2f3ce7a4c15f524a1a96c7a1d0f3c097a844b00f270e6f872d5d97e9"), looks := false }, kinds := [], alts := [], laidByText := true, laidKinds := [.sentinel, .sentinel, .sentinel, .sentinel], laidTests := true, laidLooks := .later }
def FnExactNestRightCardSaid : Prop := Claim7.holds Tryd.pinned (.plain (OpenSpec.ofChange fnExactNestRightSpec)) fnExactNestRightCard

/-- THE TIED CARD OF 'laws.FnExactNestDepth'. -/
def fnExactNestDepthCard : Claim7 := { stood := { row := fnExactNestDepthRow, standIns := [], harness := (true, "e91d67be2f3ce7a4c15f524a1a96c7a1d0f3c097a844b00f270e6f872d5d97e9"), looks := false }, kinds := [], alts := [], laidByText := true, laidKinds := [.sentinel, .sentinel, .sentinel, .sentinel], laidTests := true, laidLooks := .later }
def FnExactNestDepthCardSaid : Prop := Claim7.holds Tryd.pinned (.plain (OpenSpec.ofChange fnExactNestDepthSpec)) fnExactNestDepthCard

/-- THE TIED CARD OF 'laws.FnExactLeaves'. -/
def fnExactLeavesCard : Claim7 := { stood := { row := fnExactLeavesRow, standIns := [], harness := (true, "e91d67be2f3ce7a4c15f524a1a96c7a1d0f3c097a844b00f270e6f872d5d97e9"), looks := false }, kinds := [], alts := [], laidByText := true, laidKinds := [.sentinel, .sentinel, .sentinel, .sentinel], laidTests := true, laidLooks := .later }
def FnExactLeavesCardSaid : Prop := Claim7.holds Tryd.pinned (.plain (OpenSpec.ofChange fnExactLeavesSpec)) fnExactLeavesCard

/-- THE SECOND FORM's CARD OF 'laws.FnExactPlainOf'. -/
def fnExactPlainOfUptoCard : Claim7 := { stood := { row := fnExactPlainOfUptoRow, standIns := [], harness := (true, "e91d67be2f3ce7a4c15f524a1a96c7a1d0f3c097a844b00f270e6f872d5d97e9"), looks := false }, kinds := [], alts := [], laidByText := true, laidKinds := [.sentinel, .sentinel, .sentinel], laidTests := true, laidLooks := .later }
def FnExactPlainOfUptoCardSaid : Prop := Claim7.holds Tryd.pinned (.plain (OpenSpec.upto fnExactPlainOfSpec)) fnExactPlainOfUptoCard

/-- THE SECOND FORM's CARD OF 'laws.FnExactSeenAt'. -/
def fnExactSeenAtUptoCard : Claim7 := { stood := { row := fnExactSeenAtUptoRow, standIns := [], harness := (true, "e91d67be2f3ce7a4c15f524a1a96c7a1d0f3c097a844b00f270e6f872d5d97e9"), looks := false }, kinds := [], alts := [], laidByText := true, laidKinds := [.sentinel, .sentinel, .sentinel], laidTests := true, laidLooks := .later }
def FnExactSeenAtUptoCardSaid : Prop := Claim7.holds Tryd.pinned (.plain (OpenSpec.upto fnExactSeenAtSpec)) fnExactSeenAtUptoCard

/-- THE SECOND FORM's CARD OF 'laws.FnExactLayersOf'. -/
def fnExactLayersOfUptoCard : Claim7 := { stood := { row := fnExactLayersOfUptoRow, standIns := [], harness := (true, "e91d67be2f3ce7a4c15f524a1a96c7a1d0f3c097a844b00f270e6f872d5d97e9"), looks := false }, kinds := [], alts := [], laidByText := true, laidKinds := [.sentinel, .sentinel, .sentinel], laidTests := true, laidLooks := .later }
def FnExactLayersOfUptoCardSaid : Prop := Claim7.holds Tryd.pinned (.plain (OpenSpec.upto fnExactLayersOfSpec)) fnExactLayersOfUptoCard

/-- THE SECOND FORM's CARD OF 'laws.FnExactNestRight'. -/
def fnExactNestRightUptoCard : Claim7 := { stood := { row := fnExactNestRightUptoRow, standIns := [], harness := (true, "e91d67be2f3ce7a4c15f524a1a96c7a1d0f3c097a844b00f270e6f872d5d97e9"), looks := false }, kinds := [], alts := [], laidByText := true, laidKinds := [.sentinel, .sentinel, .sentinel, .sentinel], laidTests := true, laidLooks := .later }
def FnExactNestRightUptoCardSaid : Prop := Claim7.holds Tryd.pinned (.plain (OpenSpec.upto fnExactNestRightSpec)) fnExactNestRightUptoCard

/-- THE SECOND FORM's CARD OF 'laws.FnExactNestDepth'. -/
def fnExactNestDepthUptoCard : Claim7 := { stood := { row := fnExactNestDepthUptoRow, standIns := [], harness := (true, "e91d67be2f3ce7a4c15f524a1a96c7a1d0f3c097a844b00f270e6f872d5d97e9"), looks := false }, kinds := [], alts := [], laidByText := true, laidKinds := [.sentinel, .sentinel, .sentinel, .sentinel], laidTests := true, laidLooks := .later }
def FnExactNestDepthUptoCardSaid : Prop := Claim7.holds Tryd.pinned (.plain (OpenSpec.upto fnExactNestDepthSpec)) fnExactNestDepthUptoCard

/-- THE SECOND FORM's CARD OF 'laws.FnExactLeaves'. -/
def fnExactLeavesUptoCard : Claim7 := { stood := { row := fnExactLeavesUptoRow, standIns := [], harness := (true, "e91d67be2f3ce7a4c15f524a1a96c7a1d0f3c097a844b00f270e6f872d5d97e9"), looks := false }, kinds := [], alts := [], laidByText := true, laidKinds := [.sentinel, .sentinel, .sentinel, .sentinel], laidTests := true, laidLooks := .later }
def FnExactLeavesUptoCardSaid : Prop := Claim7.holds Tryd.pinned (.plain (OpenSpec.upto fnExactLeavesSpec)) fnExactLeavesUptoCard
end Rows
end Go.Proofs.YtopipjfomnnjcakDoor
