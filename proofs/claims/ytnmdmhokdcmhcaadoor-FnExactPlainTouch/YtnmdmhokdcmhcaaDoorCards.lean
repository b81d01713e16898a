/-
  DERIVED. GIVEN WITH THE SEED: THE CARDS: each row of YtnmdmhokdcmhcaaDoorRows.lean that lists a variable, with what it lists TIED to the program's text (the seventh form; the later family's looks); each row that meets fmt, with fmt's text TOLD by the authors' own Lean function (tested against real Go, not proved from fmt's source: count such statements apart). THE CARD IS WHAT COUNTS. Prove the row's statement (the work); the ties are given (YtnmdmhokdcmhcaaDoorTie.lean); close each card by the builder's one call (the guide's Derived/Test/ToyasCard.lean, 'card_holds'). Laid BY PROGRAM, IN A SANDBOX (cutbox-door.mjs). By AI agents, Wed Nov 11 2026. No macro, syntax, notation, axiom, sorry.
-/
import Derived.Test.YtnmdmhokdcmhcaaDoorRows
import GoSem.ClaimSeven
namespace Go.Proofs.YtnmdmhokdcmhcaaDoor
namespace Rows

/-- THE TIED CARD OF 'laws.FnExactTreeNames'. -/
def fnExactTreeNamesCard : Claim7 := { stood := { row := fnExactTreeNamesRow, standIns := [], harness := (true, "9a24a917df1ac628f511bad36ca375b56d7344704b6131ef8ab4e593c70587e1"), looks := true }, kinds := [], alts := [], laidByText := true, laidKinds := [.sentinel, .sentinel, .sentinel], laidTests := true, laidLooks := .later }
def FnExactTreeNamesCardSaid : Prop := Claim7.holds Tryd.pinned (.plain (OpenSpec.ofChange fnExactTreeNamesSpec)) fnExactTreeNamesCard

/-- THE TIED CARD OF 'laws.FnExactTreePut'. -/
def fnExactTreePutCard : Claim7 := { stood := { row := fnExactTreePutRow, standIns := [], harness := (true, "9a24a917df1ac628f511bad36ca375b56d7344704b6131ef8ab4e593c70587e1"), looks := true }, kinds := [], alts := [], laidByText := true, laidKinds := [.sentinel, .sentinel, .sentinel, .sentinel, .sentinel, .sentinel], laidTests := true, laidLooks := .later }
def FnExactTreePutCardSaid : Prop := Claim7.holds Tryd.pinned (.plain (OpenSpec.ofChange fnExactTreePutSpec)) fnExactTreePutCard

/-- THE TIED CARD OF 'laws.FnExactTreeCut'. -/
def fnExactTreeCutCard : Claim7 := { stood := { row := fnExactTreeCutRow, standIns := [], harness := (true, "9a24a917df1ac628f511bad36ca375b56d7344704b6131ef8ab4e593c70587e1"), looks := true }, kinds := [], alts := [], laidByText := true, laidKinds := [.sentinel, .sentinel, .sentinel, .sentinel, .sentinel, .sentinel], laidTests := true, laidLooks := .later }
def FnExactTreeCutCardSaid : Prop := Claim7.holds Tryd.pinned (.plain (OpenSpec.ofChange fnExactTreeCutSpec)) fnExactTreeCutCard

/-- THE TIED CARD OF 'laws.FnExactPlainOf'. -/
def fnExactPlainOfCard : Claim7 := { stood := { row := fnExactPlainOfRow, standIns := [], harness := (true, "9a24a917df1ac628f511bad36ca375b56d7344704b6131ef8ab4e593c70587e1"), looks := true }, kinds := [], alts := [], laidByText := true, laidKinds := [.sentinel, .sentinel, .sentinel], laidTests := true, laidLooks := .later }
def FnExactPlainOfCardSaid : Prop := Claim7.holds Tryd.pinned (.plain (OpenSpec.ofChange fnExactPlainOfSpec)) fnExactPlainOfCard

/-- THE TIED CARD OF 'laws.FnExactPlainRemove'. -/
def fnExactPlainRemoveCard : Claim7 := { stood := { row := fnExactPlainRemoveRow, standIns := [], harness := (true, "9a24a917df1ac628f511bad36ca375b56d7344704b6131ef8ab4e593c70587e1"), looks := true }, kinds := [], alts := [], laidByText := true, laidKinds := [.sentinel, .sentinel, .sentinel], laidTests := true, laidLooks := .later }
def FnExactPlainRemoveCardSaid : Prop := Claim7.holds Tryd.pinned (.plain (OpenSpec.ofChange fnExactPlainRemoveSpec)) fnExactPlainRemoveCard

/-- THE TIED CARD OF 'laws.FnExactPlainTouch'. -/
def fnExactPlainTouchCard : Claim7 := { stood := { row := fnExactPlainTouchRow, standIns := [], harness := (true, "9a24a917df1ac628f511bad36ca375b56d7344704b6131ef8ab4e593c70587e1"), looks := true }, kinds := [], alts := [], laidByText := true, laidKinds := [.sentinel, .sentinel, .sentinel], laidTests := true, laidLooks := .later }
def FnExactPlainTouchCardSaid : Prop := Claim7.holds Tryd.pinned (.plain (OpenSpec.ofChange fnExactPlainTouchSpec)) fnExactPlainTouchCard

/-- THE SECOND FORM's CARD OF 'laws.FnExactTreeNames'. -/
def fnExactTreeNamesUptoCard : Claim7 := { stood := { row := fnExactTreeNamesUptoRow, standIns := [], harness := (true, "9a24a917df1ac628f511bad36ca375b56d7344704b6131ef8ab4e593c70587e1"), looks := true }, kinds := [], alts := [], laidByText := true, laidKinds := [.sentinel, .sentinel, .sentinel], laidTests := true, laidLooks := .later }
def FnExactTreeNamesUptoCardSaid : Prop := Claim7.holds Tryd.pinned (.plain (OpenSpec.upto fnExactTreeNamesSpec)) fnExactTreeNamesUptoCard

/-- THE SECOND FORM's CARD OF 'laws.FnExactTreePut'. -/
def fnExactTreePutUptoCard : Claim7 := { stood := { row := fnExactTreePutUptoRow, standIns := [], harness := (true, "9a24a917df1ac628f511bad36ca375b56d7344704b6131ef8ab4e593c70587e1"), looks := true }, kinds := [], alts := [], laidByText := true, laidKinds := [.sentinel, .sentinel, .sentinel, .sentinel, .sentinel, .sentinel], laidTests := true, laidLooks := .later }
def FnExactTreePutUptoCardSaid : Prop := Claim7.holds Tryd.pinned (.plain (OpenSpec.upto fnExactTreePutSpec)) fnExactTreePutUptoCard

/-- THE SECOND FORM's CARD OF 'laws.FnExactTreeCut'. -/
def fnExactTreeCutUptoCard : Claim7 := { stood := { row := fnExactTreeCutUptoRow, standIns := [], harness := (true, "9a24a917df1ac628f511bad36ca375b56d7344704b6131ef8ab4e593c70587e1"), looks := true }, kinds := [], alts := [], laidByText := true, laidKinds := [.sentinel, .sentinel, .sentinel, .sentinel, .sentinel, .sentinel], laidTests := true, laidLooks := .later }
def FnExactTreeCutUptoCardSaid : Prop := Claim7.holds Tryd.pinned (.plain (OpenSpec.upto fnExactTreeCutSpec)) fnExactTreeCutUptoCard

/-- THE SECOND FORM's CARD OF 'laws.FnExactPlainOf'. -/
def fnExactPlainOfUptoCard : Claim7 := { stood := { row := fnExactPlainOfUptoRow, standIns := [], harness := (true, "9a24a917df1ac628f511bad36ca375b56d7344704b6131ef8ab4e593c70587e1"), looks := true }, kinds := [], alts := [], laidByText := true, laidKinds := [.sentinel, .sentinel, .sentinel], laidTests := true, laidLooks := .later }
def FnExactPlainOfUptoCardSaid : Prop := Claim7.holds Tryd.pinned (.plain (OpenSpec.upto fnExactPlainOfSpec)) fnExactPlainOfUptoCard

/-- THE SECOND FORM's CARD OF 'laws.FnExactPlainRemove'. -/
def fnExactPlainRemoveUptoCard : Claim7 := { stood := { row := fnExactPlainRemoveUptoRow, standIns := [], harness := (true, "9a24a917df1ac628f511bad36ca375b56d7344704b6131ef8ab4e593c70587e1"), looks := true }, kinds := [], alts := [], laidByText := true, laidKinds := [.sentinel, .sentinel, .sentinel], laidTests := true, laidLooks := .later }
def FnExactPlainRemoveUptoCardSaid : Prop := Claim7.holds Tryd.pinned (.plain (OpenSpec.upto fnExactPlainRemoveSpec)) fnExactPlainRemoveUptoCard

/-- THE SECOND FORM's CARD OF 'laws.FnExactPlainTouch'. -/
def fnExactPlainTouchUptoCard : Claim7 := { stood := { row := fnExactPlainTouchUptoRow, standIns := [], harness := (true, "9a24a917df1ac628f511bad36ca375b56d7344704b6131ef8ab4e593c70587e1"), looks := true }, kinds := [], alts := [], laidByText := true, laidKinds := [.sentinel, .sentinel, .sentinel], laidTests := true, laidLooks := .later }
def FnExactPlainTouchUptoCardSaid : Prop := Claim7.holds Tryd.pinned (.plain (OpenSpec.upto fnExactPlainTouchSpec)) fnExactPlainTouchUptoCard
end Rows
end Go.Proofs.YtnmdmhokdcmhcaaDoor
