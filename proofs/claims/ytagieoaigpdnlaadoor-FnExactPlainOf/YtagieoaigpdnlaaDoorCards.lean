/-
  DERIVED. GIVEN WITH THE SEED: THE CARDS: each row of YtagieoaigpdnlaaDoorRows.lean that lists a variable, with what it lists TIED to the program's text (the seventh form; the later family's looks); each row that meets fmt, with fmt's text TOLD by the authors' own Lean function (tested against real Go, not proved from fmt's source: count such statements apart). THE CARD IS WHAT COUNTS. Prove the row's statement (the work); the ties are given (YtagieoaigpdnlaaDoorTie.lean); close each card by the builder's one call (the guide's Derived/Test/ToyasCard.lean, 'card_holds'). Laid BY PROGRAM, IN A SANDBOX (cutbox-door.mjs). By AI agents, Wed Nov 11 2026. No macro, syntax, notation, axiom, sorry.
-/
import Derived.Test.YtagieoaigpdnlaaDoorRows
import GoSem.ClaimSeven
namespace Go.Proofs.YtagieoaigpdnlaaDoor
namespace Rows

/-- THE TIED CARD OF 'laws.FnExactTreeNames'. -/
def fnExactTreeNamesCard : Claim7 := { stood := { row := fnExactTreeNamesRow, standIns := [], harness := (true, "55d0831f4d8acb9b90ba8ed42b57e2bc617c6226333f7fec26304f51b49e808a"), looks := true }, kinds := [], alts := [], laidByText := true, laidKinds := [.sentinel, .sentinel, .sentinel], laidTests := true, laidLooks := .later }
def FnExactTreeNamesCardSaid : Prop := Claim7.holds Tryd.pinned (.plain (OpenSpec.ofChange fnExactTreeNamesSpec)) fnExactTreeNamesCard

/-- THE TIED CARD OF 'laws.FnExactTreePut'. -/
def fnExactTreePutCard : Claim7 := { stood := { row := fnExactTreePutRow, standIns := [], harness := (true, "55d0831f4d8acb9b90ba8ed42b57e2bc617c6226333f7fec26304f51b49e808a"), looks := true }, kinds := [], alts := [], laidByText := true, laidKinds := [.sentinel, .sentinel, .sentinel, .sentinel, .sentinel, .sentinel], laidTests := true, laidLooks := .later }
def FnExactTreePutCardSaid : Prop := Claim7.holds Tryd.pinned (.plain (OpenSpec.ofChange fnExactTreePutSpec)) fnExactTreePutCard

/-- THE TIED CARD OF 'laws.FnExactTreeCut'. -/
def fnExactTreeCutCard : Claim7 := { stood := { row := fnExactTreeCutRow, standIns := [], harness := (true, "55d0831f4d8acb9b90ba8ed42b57e2bc617c6226333f7fec26304f51b49e808a"), looks := true }, kinds := [], alts := [], laidByText := true, laidKinds := [.sentinel, .sentinel, .sentinel, .sentinel, .sentinel, .sentinel], laidTests := true, laidLooks := .later }
def FnExactTreeCutCardSaid : Prop := Claim7.holds Tryd.pinned (.plain (OpenSpec.ofChange fnExactTreeCutSpec)) fnExactTreeCutCard

/-- THE TIED CARD OF 'laws.FnExactTreeRead'. -/
def fnExactTreeReadCard : Claim7 := { stood := { row := fnExactTreeReadRow, standIns := [], harness := (true, "55d0831f4d8acb9b90ba8ed42b57e2bc617c6226333f7fec26304f51b49e808a"), looks := true }, kinds := [], alts := [], laidByText := true, laidKinds := [.sentinel, .sentinel, .sentinel], laidTests := true, laidLooks := .later }
def FnExactTreeReadCardSaid : Prop := Claim7.holds Tryd.pinned (.plain (OpenSpec.ofChange fnExactTreeReadSpec)) fnExactTreeReadCard

/-- THE TIED CARD OF 'laws.FnExactLayersRight'. -/
def fnExactLayersRightCard : Claim7 := { stood := { row := fnExactLayersRightRow, standIns := [], harness := (true, "55d0831f4d8acb9b90ba8ed42b57e2bc617c6226333f7fec26304f51b49e808a"), looks := true }, kinds := [], alts := [], laidByText := true, laidKinds := [.sentinel, .sentinel, .sentinel], laidTests := true, laidLooks := .later }
def FnExactLayersRightCardSaid : Prop := Claim7.holds Tryd.pinned (.plain (OpenSpec.ofChange fnExactLayersRightSpec)) fnExactLayersRightCard

/-- THE TIED CARD OF 'laws.FnExactPlainOf'. -/
def fnExactPlainOfCard : Claim7 := { stood := { row := fnExactPlainOfRow, standIns := [], harness := (true, "55d0831f4d8acb9b90ba8ed42b57e2bc617c6226333f7fec26304f51b49e808a"), looks := true }, kinds := [], alts := [], laidByText := true, laidKinds := [.sentinel, .sentinel, .sentinel], laidTests := true, laidLooks := .later }
def FnExactPlainOfCardSaid : Prop := Claim7.holds Tryd.pinned (.plain (OpenSpec.ofChange fnExactPlainOfSpec)) fnExactPlainOfCard

/-- THE SECOND FORM's CARD OF 'laws.FnExactTreeNames'. -/
def fnExactTreeNamesUptoCard : Claim7 := { stood := { row := fnExactTreeNamesUptoRow, standIns := [], harness := (true, "55d0831f4d8acb9b90ba8ed42b57e2bc617c6226333f7fec26304f51b49e808a"), looks := true }, kinds := [], alts := [], laidByText := true, laidKinds := [.sentinel, .sentinel, .sentinel], laidTests := true, laidLooks := .later }
def FnExactTreeNamesUptoCardSaid : Prop := Claim7.holds Tryd.pinned (.plain (OpenSpec.upto fnExactTreeNamesSpec)) fnExactTreeNamesUptoCard

/-- THE SECOND FORM's CARD OF 'laws.FnExactTreePut'. -/
def fnExactTreePutUptoCard : Claim7 := { stood := { row := fnExactTreePutUptoRow, standIns := [], harness := (true, "55d0831f4d8acb9b90ba8ed42b57e2bc617c6226333f7fec26304f51b49e808a"), looks := true }, kinds := [], alts := [], laidByText := true, laidKinds := [.sentinel, .sentinel, .sentinel, .sentinel, .sentinel, .sentinel], laidTests := true, laidLooks := .later }
def FnExactTreePutUptoCardSaid : Prop := Claim7.holds Tryd.pinned (.plain (OpenSpec.upto fnExactTreePutSpec)) fnExactTreePutUptoCard

/-- THE SECOND FORM's CARD OF 'laws.FnExactTreeCut'. -/
def fnExactTreeCutUptoCard : Claim7 := { stood := { row := fnExactTreeCutUptoRow, standIns := [], harness := (true, "55d0831f4d8acb9b90ba8ed42b57e2bc617c6226333f7fec26304f51b49e808a"), looks := true }, kinds := [], alts := [], laidByText := true, laidKinds := [.sentinel, .sentinel, .sentinel, .sentinel, .sentinel, .sentinel], laidTests := true, laidLooks := .later }
def FnExactTreeCutUptoCardSaid : Prop := Claim7.holds Tryd.pinned (.plain (OpenSpec.upto fnExactTreeCutSpec)) fnExactTreeCutUptoCard

/-- THE SECOND FORM's CARD OF 'laws.FnExactTreeRead'. -/
def fnExactTreeReadUptoCard : Claim7 := { stood := { row := fnExactTreeReadUptoRow, standIns := [], harness := (true, "55d0831f4d8acb9b90ba8ed42b57e2bc617c6226333f7fec26304f51b49e808a"), looks := true }, kinds := [], alts := [], laidByText := true, laidKinds := [.sentinel, .sentinel, .sentinel], laidTests := true, laidLooks := .later }
def FnExactTreeReadUptoCardSaid : Prop := Claim7.holds Tryd.pinned (.plain (OpenSpec.upto fnExactTreeReadSpec)) fnExactTreeReadUptoCard

/-- THE SECOND FORM's CARD OF 'laws.FnExactLayersRight'. -/
def fnExactLayersRightUptoCard : Claim7 := { stood := { row := fnExactLayersRightUptoRow, standIns := [], harness := (true, "55d0831f4d8acb9b90ba8ed42b57e2bc617c6226333f7fec26304f51b49e808a"), looks := true }, kinds := [], alts := [], laidByText := true, laidKinds := [.sentinel, .sentinel, .sentinel], laidTests := true, laidLooks := .later }
def FnExactLayersRightUptoCardSaid : Prop := Claim7.holds Tryd.pinned (.plain (OpenSpec.upto fnExactLayersRightSpec)) fnExactLayersRightUptoCard

/-- THE SECOND FORM's CARD OF 'laws.FnExactPlainOf'. -/
def fnExactPlainOfUptoCard : Claim7 := { stood := { row := fnExactPlainOfUptoRow, standIns := [], harness := (true, "55d0831f4d8acb9b90ba8ed42b57e2bc617c6226333f7fec26304f51b49e808a"), looks := true }, kinds := [], alts := [], laidByText := true, laidKinds := [.sentinel, .sentinel, .sentinel], laidTests := true, laidLooks := .later }
def FnExactPlainOfUptoCardSaid : Prop := Claim7.holds Tryd.pinned (.plain (OpenSpec.upto fnExactPlainOfSpec)) fnExactPlainOfUptoCard
end Rows
end Go.Proofs.YtagieoaigpdnlaaDoor
