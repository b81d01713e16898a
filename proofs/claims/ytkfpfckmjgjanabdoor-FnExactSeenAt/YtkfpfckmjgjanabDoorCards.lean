/-
  DERIVED. GIVEN WITH THE SEED: THE CARDS: each row of YtkfpfckmjgjanabDoorRows.lean that lists a variable, with what it lists TIED to the program's text (the seventh form; the later family's looks); each row that meets fmt, with fmt's text TOLD by the authors' own Lean function (tested against real Go, not proved from fmt's source: count such statements apart). THE CARD IS WHAT COUNTS. Prove the row's statement (the work); the ties are given (YtkfpfckmjgjanabDoorTie.lean); close each card by the builder's one call (the guide's Derived/Test/ToyasCard.lean, 'card_holds'). Laid BY PROGRAM, IN A SANDBOX (cutbox-door.mjs). By AI agents, Wed Nov 11 2026. No macro, syntax, notation, axiom, sorry.
-/
import Derived.Test.YtkfpfckmjgjanabDoorRows
import GoSem.ClaimSeven
namespace Go.Proofs.YtkfpfckmjgjanabDoor
namespace Rows

/-- THE TIED CARD OF 'laws.FnExactLayersRight'. -/
def fnExactLayersRightCard : Claim7 := { stood := { row := fnExactLayersRightRow, standIns := [], harness := (true, "c66bdb55199010576347e25bc61cb492cc571c2e1bcf91dd782d26f08ec70c53"), looks := true }, kinds := [], alts := [], laidByText := true, laidKinds := [.sentinel, .sentinel, .sentinel], laidTests := true, laidLooks := .later }
def FnExactLayersRightCardSaid : Prop := Claim7.holds Tryd.pinned (.plain (OpenSpec.ofChange fnExactLayersRightSpec)) fnExactLayersRightCard

/-- THE TIED CARD OF 'laws.FnExactPlainOf'. -/
def fnExactPlainOfCard : Claim7 := { stood := { row := fnExactPlainOfRow, standIns := [], harness := (true, "c66bdb55199010576347e25bc61cb492cc571c2e1bcf91dd782d26f08ec70c53"), looks := true }, kinds := [], alts := [], laidByText := true, laidKinds := [.sentinel, .sentinel, .sentinel], laidTests := true, laidLooks := .later }
def FnExactPlainOfCardSaid : Prop := Claim7.holds Tryd.pinned (.plain (OpenSpec.ofChange fnExactPlainOfSpec)) fnExactPlainOfCard

/-- THE TIED CARD OF 'laws.FnExactSeenAt'. -/
def fnExactSeenAtCard : Claim7 := { stood := { row := fnExactSeenAtRow, standIns := [], harness := (true, "c66bdb55199010576347e25bc61cb492cc571c2e1bcf91dd782d26f08ec70c53"), looks := true }, kinds := [], alts := [], laidByText := true, laidKinds := [.sentinel, .sentinel, .sentinel], laidTests := true, laidLooks := .later }
def FnExactSeenAtCardSaid : Prop := Claim7.holds Tryd.pinned (.plain (OpenSpec.ofChange fnExactSeenAtSpec)) fnExactSeenAtCard

/-- THE TIED CARD OF 'laws.FnExactLayersOf'. -/
def fnExactLayersOfCard : Claim7 := { stood := { row := fnExactLayersOfRow, standIns := [], harness := (true, "c66bdb55199010576347e25bc61cb492cc571c2e1bcf91dd782d26f08ec70c53"), looks := true }, kinds := [], alts := [], laidByText := true, laidKinds := [.sentinel, .sentinel, .sentinel], laidTests := true, laidLooks := .later }
def FnExactLayersOfCardSaid : Prop := Claim7.holds Tryd.pinned (.plain (OpenSpec.ofChange fnExactLayersOfSpec)) fnExactLayersOfCard

/-- THE TIED CARD OF 'laws.FnExactPlainRemove'. -/
def fnExactPlainRemoveCard : Claim7 := { stood := { row := fnExactPlainRemoveRow, standIns := [], harness := (true, "c66bdb55199010576347e25bc61cb492cc571c2e1bcf91dd782d26f08ec70c53"), looks := true }, kinds := [], alts := [], laidByText := true, laidKinds := [.sentinel, .sentinel, .sentinel], laidTests := true, laidLooks := .later }
def FnExactPlainRemoveCardSaid : Prop := Claim7.holds Tryd.pinned (.plain (OpenSpec.ofChange fnExactPlainRemoveSpec)) fnExactPlainRemoveCard

/-- THE TIED CARD OF 'laws.FnExactPlainTouch'. -/
def fnExactPlainTouchCard : Claim7 := { stood := { row := fnExactPlainTouchRow, standIns := [], harness := (true, "c66bdb55199010576347e25bc61cb492cc571c2e1bcf91dd782d26f08ec70c53"), looks := true }, kinds := [], alts := [], laidByText := true, laidKinds := [.sentinel, .sentinel, .sentinel], laidTests := true, laidLooks := .later }
def FnExactPlainTouchCardSaid : Prop := Claim7.holds Tryd.pinned (.plain (OpenSpec.ofChange fnExactPlainTouchSpec)) fnExactPlainTouchCard

/-- THE SECOND FORM's CARD OF 'laws.FnExactLayersRight'. -/
def fnExactLayersRightUptoCard : Claim7 := { stood := { row := fnExactLayersRightUptoRow, standIns := [], harness := (true, "c66bdb55199010576347e25bc61cb492cc571c2e1bcf91dd782d26f08ec70c53"), looks := true }, kinds := [], alts := [], laidByText := true, laidKinds := [.sentinel, .sentinel, .sentinel], laidTests := true, laidLooks := .later }
def FnExactLayersRightUptoCardSaid : Prop := Claim7.holds Tryd.pinned (.plain (OpenSpec.upto fnExactLayersRightSpec)) fnExactLayersRightUptoCard

/-- THE SECOND FORM's CARD OF 'laws.FnExactPlainOf'. -/
def fnExactPlainOfUptoCard : Claim7 := { stood := { row := fnExactPlainOfUptoRow, standIns := [], harness := (true, "c66bdb55199010576347e25bc61cb492cc571c2e1bcf91dd782d26f08ec70c53"), looks := true }, kinds := [], alts := [], laidByText := true, laidKinds := [.sentinel, .sentinel, .sentinel], laidTests := true, laidLooks := .later }
def FnExactPlainOfUptoCardSaid : Prop := Claim7.holds Tryd.pinned (.plain (OpenSpec.upto fnExactPlainOfSpec)) fnExactPlainOfUptoCard

/-- THE SECOND FORM's CARD OF 'laws.FnExactSeenAt'. -/
def fnExactSeenAtUptoCard : Claim7 := { stood := { row := fnExactSeenAtUptoRow, standIns := [], harness := (true, "c66bdb55199010576347e25bc61cb492cc571c2e1bcf91dd782d26f08ec70c53"), looks := true }, kinds := [], alts := [], laidByText := true, laidKinds := [.sentinel, .sentinel, .sentinel], laidTests := true, laidLooks := .later }
def FnExactSeenAtUptoCardSaid : Prop := Claim7.holds Tryd.pinned (.plain (OpenSpec.upto fnExactSeenAtSpec)) fnExactSeenAtUptoCard

/-- THE SECOND FORM's CARD OF 'laws.FnExactLayersOf'. -/
def fnExactLayersOfUptoCard : Claim7 := { stood := { row := fnExactLayersOfUptoRow, standIns := [], harness := (true, "c66bdb55199010576347e25bc61cb492cc571c2e1bcf91dd782d26f08ec70c53"), looks := true }, kinds := [], alts := [], laidByText := true, laidKinds := [.sentinel, .sentinel, .sentinel], laidTests := true, laidLooks := .later }
def FnExactLayersOfUptoCardSaid : Prop := Claim7.holds Tryd.pinned (.plain (OpenSpec.upto fnExactLayersOfSpec)) fnExactLayersOfUptoCard

/-- THE SECOND FORM's CARD OF 'laws.FnExactPlainRemove'. -/
def fnExactPlainRemoveUptoCard : Claim7 := { stood := { row := fnExactPlainRemoveUptoRow, standIns := [], harness := (true, "c66bdb55199010576347e25bc61cb492cc571c2e1bcf91dd782d26f08ec70c53"), looks := true }, kinds := [], alts := [], laidByText := true, laidKinds := [.sentinel, .sentinel, .sentinel], laidTests := true, laidLooks := .later }
def FnExactPlainRemoveUptoCardSaid : Prop := Claim7.holds Tryd.pinned (.plain (OpenSpec.upto fnExactPlainRemoveSpec)) fnExactPlainRemoveUptoCard

/-- THE SECOND FORM's CARD OF 'laws.FnExactPlainTouch'. -/
def fnExactPlainTouchUptoCard : Claim7 := { stood := { row := fnExactPlainTouchUptoRow, standIns := [], harness := (true, "c66bdb55199010576347e25bc61cb492cc571c2e1bcf91dd782d26f08ec70c53"), looks := true }, kinds := [], alts := [], laidByText := true, laidKinds := [.sentinel, .sentinel, .sentinel], laidTests := true, laidLooks := .later }
def FnExactPlainTouchUptoCardSaid : Prop := Claim7.holds Tryd.pinned (.plain (OpenSpec.upto fnExactPlainTouchSpec)) fnExactPlainTouchUptoCard
end Rows
end Go.Proofs.YtkfpfckmjgjanabDoor
