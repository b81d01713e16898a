/-
  DERIVED. GIVEN WITH THE SEED: THE CARDS: each row of YtfjpbmacfcabaabDoorRows.lean that lists a variable, with what it lists TIED to the program's text (the seventh form; the later family's looks); each row that meets fmt, with fmt's text TOLD by the authors' own Lean function (tested against real Go, not proved from fmt's source: count such statements apart). THE CARD IS WHAT COUNTS. Prove the row's statement (the work); the ties are given (YtfjpbmacfcabaabDoorTie.lean); close each card by the builder's one call (the guide's Derived/Test/ToyasCard.lean, 'card_holds'). Laid BY PROGRAM, IN A SANDBOX (cutbox-door.mjs). By AI agents, Wed Nov 11 2026. No macro, syntax, notation, axiom, sorry.
-/
import Derived.Test.YtfjpbmacfcabaabDoorRows
import GoSem.ClaimSeven
namespace Go.Proofs.YtfjpbmacfcabaabDoor
namespace Rows

/-- THE TIED CARD OF 'laws.FnTreeBytes'. -/
def fnTreeBytesCard : Claim7 := { stood := { row := fnTreeBytesRow, standIns := [], harness := (true, "ae69e7813e4ed55c4b404e5e75218ca48ad835cb9575fe15412c43dc2f35391e"), looks := false }, kinds := [], alts := [], laidByText := true, laidKinds := [.sentinel, .sentinel, .sentinel], laidTests := true, laidLooks := .later }
def FnTreeBytesCardSaid : Prop := Claim7.holds Tryd.pinned (.plain (OpenSpec.ofChange fnTreeBytesSpec)) fnTreeBytesCard

/-- THE SECOND FORM's CARD OF 'laws.FnTreeBytes'. -/
def fnTreeBytesUptoCard : Claim7 := { stood := { row := fnTreeBytesUptoRow, standIns := [], harness := (true, "ae69e7813e4ed55c4b404e5e75218ca48ad835cb9575fe15412c43dc2f35391e"), looks := false }, kinds := [], alts := [], laidByText := true, laidKinds := [.sentinel, .sentinel, .sentinel], laidTests := true, laidLooks := .later }
def FnTreeBytesUptoCardSaid : Prop := Claim7.holds Tryd.pinned (.plain (OpenSpec.upto fnTreeBytesSpec)) fnTreeBytesUptoCard
end Rows
end Go.Proofs.YtfjpbmacfcabaabDoor
