/-
  DERIVED. GIVEN WITH THE SEED: THE CARDS: each row of YtjfnmfnjlacbeaaDoorRows.lean that lists a variable, with what it lists TIED to the program's text (the seventh form; the later family's looks); each row that meets fmt, with fmt's text TOLD by the authors' own Lean function (tested against real Go, not proved from fmt's source: count such statements apart). THE CARD IS WHAT COUNTS. Prove the row's statement (the work); the ties are given (YtjfnmfnjlacbeaaDoorTie.lean); close each card by the builder's one call (the guide's Derived/Test/ToyasCard.lean, 'card_holds'). Laid BY PROGRAM, IN A SANDBOX (cutbox-door.mjs). By AI agents, Wed Nov 11 2026. No macro, syntax, notation, axiom, sorry.
-/
import Derived.Test.YtjfnmfnjlacbeaaDoorRows
import GoSem.ClaimSeven
namespace Go.Proofs.YtjfnmfnjlacbeaaDoor
namespace Rows

/-- THE TIED CARD OF 'laws.FnExactReach'. -/
def fnExactReachCard : Claim7 := { stood := { row := fnExactReachRow, standIns := [], harness := (true, "410832ca1dc160708074aff6fb53f27da20a24b3ae250e789dd6524bac2edb3d"), looks := true }, kinds := [], alts := [], laidByText := true, laidKinds := [.sentinel, .sentinel, .sentinel, .sentinel], laidTests := true, laidLooks := .later }
def FnExactReachCardSaid : Prop := Claim7.holds Tryd.pinned (.plain (OpenSpec.ofChange fnExactReachSpec)) fnExactReachCard

/-- THE TIED CARD OF 'laws.FnExactTreeRight'. -/
def fnExactTreeRightCard : Claim7 := { stood := { row := fnExactTreeRightRow, standIns := [], harness := (true, "410832ca1dc160708074aff6fb53f27da20a24b3ae250e789dd6524bac2edb3d"), looks := true }, kinds := [], alts := [], laidByText := true, laidKinds := [.sentinel, .sentinel, .sentinel], laidTests := true, laidLooks := .later }
def FnExactTreeRightCardSaid : Prop := Claim7.holds Tryd.pinned (.plain (OpenSpec.ofChange fnExactTreeRightSpec)) fnExactTreeRightCard

/-- THE TIED CARD OF 'laws.FnExactTreePlain'. -/
def fnExactTreePlainCard : Claim7 := { stood := { row := fnExactTreePlainRow, standIns := [], harness := (true, "410832ca1dc160708074aff6fb53f27da20a24b3ae250e789dd6524bac2edb3d"), looks := true }, kinds := [], alts := [], laidByText := true, laidKinds := [.sentinel, .sentinel, .sentinel], laidTests := true, laidLooks := .later }
def FnExactTreePlainCardSaid : Prop := Claim7.holds Tryd.pinned (.plain (OpenSpec.ofChange fnExactTreePlainSpec)) fnExactTreePlainCard

/-- THE TIED CARD OF 'laws.FnExactTreeGet'. -/
def fnExactTreeGetCard : Claim7 := { stood := { row := fnExactTreeGetRow, standIns := [], harness := (true, "410832ca1dc160708074aff6fb53f27da20a24b3ae250e789dd6524bac2edb3d"), looks := true }, kinds := [], alts := [], laidByText := true, laidKinds := [.sentinel, .sentinel, .sentinel, .sentinel, .sentinel, .sentinel], laidTests := true, laidLooks := .later }
def FnExactTreeGetCardSaid : Prop := Claim7.holds Tryd.pinned (.plain (OpenSpec.ofChange fnExactTreeGetSpec)) fnExactTreeGetCard

/-- THE TIED CARD OF 'laws.FnExactTreeNames'. -/
def fnExactTreeNamesCard : Claim7 := { stood := { row := fnExactTreeNamesRow, standIns := [], harness := (true, "410832ca1dc160708074aff6fb53f27da20a24b3ae250e789dd6524bac2edb3d"), looks := true }, kinds := [], alts := [], laidByText := true, laidKinds := [.sentinel, .sentinel, .sentinel], laidTests := true, laidLooks := .later }
def FnExactTreeNamesCardSaid : Prop := Claim7.holds Tryd.pinned (.plain (OpenSpec.ofChange fnExactTreeNamesSpec)) fnExactTreeNamesCard

/-- THE TIED CARD OF 'laws.FnExactTreeCut'. -/
def fnExactTreeCutCard : Claim7 := { stood := { row := fnExactTreeCutRow, standIns := [], harness := (true, "410832ca1dc160708074aff6fb53f27da20a24b3ae250e789dd6524bac2edb3d"), looks := true }, kinds := [], alts := [], laidByText := true, laidKinds := [.sentinel, .sentinel, .sentinel, .sentinel, .sentinel, .sentinel], laidTests := true, laidLooks := .later }
def FnExactTreeCutCardSaid : Prop := Claim7.holds Tryd.pinned (.plain (OpenSpec.ofChange fnExactTreeCutSpec)) fnExactTreeCutCard

/-- THE SECOND FORM's CARD OF 'laws.FnExactReach'. -/
def fnExactReachUptoCard : Claim7 := { stood := { row := fnExactReachUptoRow, standIns := [], harness := (true, "410832ca1dc160708074aff6fb53f27da20a24b3ae250e789dd6524bac2edb3d"), looks := true }, kinds := [], alts := [], laidByText := true, laidKinds := [.sentinel, .sentinel, .sentinel, .sentinel], laidTests := true, laidLooks := .later }
def FnExactReachUptoCardSaid : Prop := Claim7.holds Tryd.pinned (.plain (OpenSpec.upto fnExactReachSpec)) fnExactReachUptoCard

/-- THE SECOND FORM's CARD OF 'laws.FnExactTreeRight'. -/
def fnExactTreeRightUptoCard : Claim7 := { stood := { row := fnExactTreeRightUptoRow, standIns := [], harness := (true, "410832ca1dc160708074aff6fb53f27da20a24b3ae250e789dd6524bac2edb3d"), looks := true }, kinds := [], alts := [], laidByText := true, laidKinds := [.sentinel, .sentinel, .sentinel], laidTests := true, laidLooks := .later }
def FnExactTreeRightUptoCardSaid : Prop := Claim7.holds Tryd.pinned (.plain (OpenSpec.upto fnExactTreeRightSpec)) fnExactTreeRightUptoCard

/-- THE SECOND FORM's CARD OF 'laws.FnExactTreePlain'. -/
def fnExactTreePlainUptoCard : Claim7 := { stood := { row := fnExactTreePlainUptoRow, standIns := [], harness := (true, "410832ca1dc160708074aff6fb53f27da20a24b3ae250e789dd6524bac2edb3d"), looks := true }, kinds := [], alts := [], laidByText := true, laidKinds := [.sentinel, .sentinel, .sentinel], laidTests := true, laidLooks := .later }
def FnExactTreePlainUptoCardSaid : Prop := Claim7.holds Tryd.pinned (.plain (OpenSpec.upto fnExactTreePlainSpec)) fnExactTreePlainUptoCard

/-- THE SECOND FORM's CARD OF 'laws.FnExactTreeGet'. -/
def fnExactTreeGetUptoCard : Claim7 := { stood := { row := fnExactTreeGetUptoRow, standIns := [], harness := (true, "410832ca1dc160708074aff6fb53f27da20a24b3ae250e789dd6524bac2edb3d"), looks := true }, kinds := [], alts := [], laidByText := true, laidKinds := [.sentinel, .sentinel, .sentinel, .sentinel, .sentinel, .sentinel], laidTests := true, laidLooks := .later }
def FnExactTreeGetUptoCardSaid : Prop := Claim7.holds Tryd.pinned (.plain (OpenSpec.upto fnExactTreeGetSpec)) fnExactTreeGetUptoCard

/-- THE SECOND FORM's CARD OF 'laws.FnExactTreeNames'. -/
def fnExactTreeNamesUptoCard : Claim7 := { stood := { row := fnExactTreeNamesUptoRow, standIns := [], harness := (true, "410832ca1dc160708074aff6fb53f27da20a24b3ae250e789dd6524bac2edb3d"), looks := true }, kinds := [], alts := [], laidByText := true, laidKinds := [.sentinel, .sentinel, .sentinel], laidTests := true, laidLooks := .later }
def FnExactTreeNamesUptoCardSaid : Prop := Claim7.holds Tryd.pinned (.plain (OpenSpec.upto fnExactTreeNamesSpec)) fnExactTreeNamesUptoCard

/-- THE SECOND FORM's CARD OF 'laws.FnExactTreeCut'. -/
def fnExactTreeCutUptoCard : Claim7 := { stood := { row := fnExactTreeCutUptoRow, standIns := [], harness := (true, "410832ca1dc160708074aff6fb53f27da20a24b3ae250e789dd6524bac2edb3d"), looks := true }, kinds := [], alts := [], laidByText := true, laidKinds := [.sentinel, .sentinel, .sentinel, .sentinel, .sentinel, .sentinel], laidTests := true, laidLooks := .later }
def FnExactTreeCutUptoCardSaid : Prop := Claim7.holds Tryd.pinned (.plain (OpenSpec.upto fnExactTreeCutSpec)) fnExactTreeCutUptoCard
end Rows
end Go.Proofs.YtjfnmfnjlacbeaaDoor
