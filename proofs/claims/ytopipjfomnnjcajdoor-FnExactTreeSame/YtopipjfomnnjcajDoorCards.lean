/-
  DERIVED. GIVEN WITH THE SEED: THE CARDS: each row of YtopipjfomnnjcajDoorRows.lean that lists a variable, with what it lists TIED to the program's text (the seventh form; the later family's looks); each row that meets fmt, with fmt's text TOLD by the authors' own Lean function (tested against real Go, not proved from fmt's source: count such statements apart). THE CARD IS WHAT COUNTS. Prove the row's statement (the work); the ties are given (YtopipjfomnnjcajDoorTie.lean); close each card by the builder's one call (the guide's Derived/Test/ToyasCard.lean, 'card_holds'). Laid BY PROGRAM, IN A SANDBOX (cutbox-door.mjs). By AI agents, Wed Nov 11 2026. No macro, syntax, notation, axiom, sorry.
-/
import Derived.Test.YtopipjfomnnjcajDoorRows
import GoSem.ClaimSeven
namespace Go.Proofs.YtopipjfomnnjcajDoor
namespace Rows

/-- THE TIED CARD OF 'laws.FnExactTreeBytes'. -/
def fnExactTreeBytesCard : Claim7 := { stood := { row := fnExactTreeBytesRow, standIns := [], harness := (true, "25131f0d2358b1a43b5d120a321c981499227dc51bc58bf42007ec1668ed9216"), looks := false }, kinds := [], alts := [], laidByText := true, laidKinds := [.sentinel, .sentinel, .sentinel], laidTests := true, laidLooks := .later }
def FnExactTreeBytesCardSaid : Prop := Claim7.holds Tryd.pinned (.plain (OpenSpec.ofChange fnExactTreeBytesSpec)) fnExactTreeBytesCard

/-- THE TIED CARD OF 'laws.FnExactTreeRead'. -/
def fnExactTreeReadCard : Claim7 := { stood := { row := fnExactTreeReadRow, standIns := [], harness := (true, "25131f0d2358b1a43b5d120a321c981499227dc51bc58bf42007ec1668ed9216"), looks := false }, kinds := [], alts := [], laidByText := true, laidKinds := [.sentinel, .sentinel, .sentinel], laidTests := true, laidLooks := .later }
def FnExactTreeReadCardSaid : Prop := Claim7.holds Tryd.pinned (.plain (OpenSpec.ofChange fnExactTreeReadSpec)) fnExactTreeReadCard

/-- THE TIED CARD OF 'laws.FnExactTreeCount'. -/
def fnExactTreeCountCard : Claim7 := { stood := { row := fnExactTreeCountRow, standIns := [], harness := (true, "25131f0d2358b1a43b5d120a321c981499227dc51bc58bf42007ec1668ed9216"), looks := false }, kinds := [], alts := [], laidByText := true, laidKinds := [.sentinel, .sentinel, .sentinel], laidTests := true, laidLooks := .later }
def FnExactTreeCountCardSaid : Prop := Claim7.holds Tryd.pinned (.plain (OpenSpec.ofChange fnExactTreeCountSpec)) fnExactTreeCountCard

/-- THE TIED CARD OF 'laws.FnExactTreeSame'. -/
def fnExactTreeSameCard : Claim7 := { stood := { row := fnExactTreeSameRow, standIns := [], harness := (true, "25131f0d2358b1a43b5d120a321c981499227dc51bc58bf42007ec1668ed9216"), looks := false }, kinds := [], alts := [], laidByText := true, laidKinds := [.sentinel, .sentinel, .sentinel], laidTests := true, laidLooks := .later }
def FnExactTreeSameCardSaid : Prop := Claim7.holds Tryd.pinned (.plain (OpenSpec.ofChange fnExactTreeSameSpec)) fnExactTreeSameCard

/-- THE TIED CARD OF 'laws.FnExactLayersRight'. -/
def fnExactLayersRightCard : Claim7 := { stood := { row := fnExactLayersRightRow, standIns := [], harness := (true, "25131f0d2358b1a43b5d120a321c981499227dc51bc58bf42007ec1668ed9216"), looks := false }, kinds := [], alts := [], laidByText := true, laidKinds := [.sentinel, .sentinel, .sentinel], laidTests := true, laidLooks := .later }
def FnExactLayersRightCardSaid : Prop := Claim7.holds Tryd.pinned (.plain (OpenSpec.ofChange fnExactLayersRightSpec)) fnExactLayersRightCard

/-- THE SECOND FORM's CARD OF 'laws.FnExactTreeBytes'. -/
def fnExactTreeBytesUptoCard : Claim7 := { stood := { row := fnExactTreeBytesUptoRow, standIns := [], harness := (true, "25131f0d2358b1a43b5d120a321c981499227dc51bc58bf42007ec1668ed9216"), looks := false }, kinds := [], alts := [], laidByText := true, laidKinds := [.sentinel, .sentinel, .sentinel], laidTests := true, laidLooks := .later }
def FnExactTreeBytesUptoCardSaid : Prop := Claim7.holds Tryd.pinned (.plain (OpenSpec.upto fnExactTreeBytesSpec)) fnExactTreeBytesUptoCard

/-- THE SECOND FORM's CARD OF 'laws.FnExactTreeRead'. -/
def fnExactTreeReadUptoCard : Claim7 := { stood := { row := fnExactTreeReadUptoRow, standIns := [], harness := (true, "25131f0d2358b1a43b5d120a321c981499227dc51bc58bf42007ec1668ed9216"), looks := false }, kinds := [], alts := [], laidByText := true, laidKinds := [.sentinel, .sentinel, .sentinel], laidTests := true, laidLooks := .later }
def FnExactTreeReadUptoCardSaid : Prop := Claim7.holds Tryd.pinned (.plain (OpenSpec.upto fnExactTreeReadSpec)) fnExactTreeReadUptoCard

/-- THE SECOND FORM's CARD OF 'laws.FnExactTreeCount'. -/
def fnExactTreeCountUptoCard : Claim7 := { stood := { row := fnExactTreeCountUptoRow, standIns := [], harness := (true, "25131f0d2358b1a43b5d120a321c981499227dc51bc58bf42007ec1668ed9216"), looks := false }, kinds := [], alts := [], laidByText := true, laidKinds := [.sentinel, .sentinel, .sentinel], laidTests := true, laidLooks := .later }
def FnExactTreeCountUptoCardSaid : Prop := Claim7.holds Tryd.pinned (.plain (OpenSpec.upto fnExactTreeCountSpec)) fnExactTreeCountUptoCard

/-- THE SECOND FORM's CARD OF 'laws.FnExactTreeSame'. -/
def fnExactTreeSameUptoCard : Claim7 := { stood := { row := fnExactTreeSameUptoRow, standIns := [], harness := (true, "25131f0d2358b1a43b5d120a321c981499227dc51bc58bf42007ec1668ed9216"), looks := false }, kinds := [], alts := [], laidByText := true, laidKinds := [.sentinel, .sentinel, .sentinel], laidTests := true, laidLooks := .later }
def FnExactTreeSameUptoCardSaid : Prop := Claim7.holds Tryd.pinned (.plain (OpenSpec.upto fnExactTreeSameSpec)) fnExactTreeSameUptoCard

/-- THE SECOND FORM's CARD OF 'laws.FnExactLayersRight'. -/
def fnExactLayersRightUptoCard : Claim7 := { stood := { row := fnExactLayersRightUptoRow, standIns := [], harness := (true, "25131f0d2358b1a43b5d120a321c981499227dc51bc58bf42007ec1668ed9216"), looks := false }, kinds := [], alts := [], laidByText := true, laidKinds := [.sentinel, .sentinel, .sentinel], laidTests := true, laidLooks := .later }
def FnExactLayersRightUptoCardSaid : Prop := Claim7.holds Tryd.pinned (.plain (OpenSpec.upto fnExactLayersRightSpec)) fnExactLayersRightUptoCard
end Rows
end Go.Proofs.YtopipjfomnnjcajDoor
