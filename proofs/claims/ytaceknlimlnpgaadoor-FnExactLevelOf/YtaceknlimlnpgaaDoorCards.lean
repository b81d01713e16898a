/-
  DERIVED. GIVEN WITH THE SEED: THE CARDS: each row of YtaceknlimlnpgaaDoorRows.lean that lists a variable, with what it lists TIED to the program's text (the seventh form; the later family's looks); each row that meets fmt, with fmt's text TOLD by the authors' own Lean function (tested against real Go, not proved from fmt's source: count such statements apart). THE CARD IS WHAT COUNTS. Prove the row's statement (the work); the ties are given (YtaceknlimlnpgaaDoorTie.lean); close each card by the builder's one call (the guide's Derived/Test/ToyasCard.lean, 'card_holds'). Laid BY PROGRAM, IN A SANDBOX (cutbox-door.mjs). By AI agents, Wed Nov 11 2026. No macro, syntax, notation, axiom, sorry.
-/
import Derived.Test.YtaceknlimlnpgaaDoorRows
import GoSem.ClaimSeven
namespace Go.Proofs.YtaceknlimlnpgaaDoor
namespace Rows

/-- THE TIED CARD OF 'laws.FnExactFirstLeaf'. -/
def fnExactFirstLeafCard : Claim7 := { stood := { row := fnExactFirstLeafRow, standIns := [], harness := (true, "3d36ae517bd2fe0e36af0f6391473da81b5953faab9401ed9f280d022b7fde34"), looks := false }, kinds := [], alts := [], laidByText := true, laidKinds := [.sentinel, .sentinel, .sentinel, .sentinel], laidTests := true, laidLooks := .later }
def FnExactFirstLeafCardSaid : Prop := Claim7.holds Tryd.pinned (.plain (OpenSpec.ofChange fnExactFirstLeafSpec)) fnExactFirstLeafCard

/-- THE TIED CARD OF 'laws.FnExactLevelOf'. -/
def fnExactLevelOfCard : Claim7 := { stood := { row := fnExactLevelOfRow, standIns := [], harness := (true, "3d36ae517bd2fe0e36af0f6391473da81b5953faab9401ed9f280d022b7fde34"), looks := false }, kinds := [], alts := [], laidByText := true, laidKinds := [.sentinel, .sentinel, .sentinel, .sentinel], laidTests := true, laidLooks := .later }
def FnExactLevelOfCardSaid : Prop := Claim7.holds Tryd.pinned (.plain (OpenSpec.ofChange fnExactLevelOfSpec)) fnExactLevelOfCard

/-- THE SECOND FORM's CARD OF 'laws.FnExactFirstLeaf'. -/
def fnExactFirstLeafUptoCard : Claim7 := { stood := { row := fnExactFirstLeafUptoRow, standIns := [], harness := (true, "3d36ae517bd2fe0e36af0f6391473da81b5953faab9401ed9f280d022b7fde34"), looks := false }, kinds := [], alts := [], laidByText := true, laidKinds := [.sentinel, .sentinel, .sentinel, .sentinel], laidTests := true, laidLooks := .later }
def FnExactFirstLeafUptoCardSaid : Prop := Claim7.holds Tryd.pinned (.plain (OpenSpec.upto fnExactFirstLeafSpec)) fnExactFirstLeafUptoCard

/-- THE SECOND FORM's CARD OF 'laws.FnExactLevelOf'. -/
def fnExactLevelOfUptoCard : Claim7 := { stood := { row := fnExactLevelOfUptoRow, standIns := [], harness := (true, "3d36ae517bd2fe0e36af0f6391473da81b5953faab9401ed9f280d022b7fde34"), looks := false }, kinds := [], alts := [], laidByText := true, laidKinds := [.sentinel, .sentinel, .sentinel, .sentinel], laidTests := true, laidLooks := .later }
def FnExactLevelOfUptoCardSaid : Prop := Claim7.holds Tryd.pinned (.plain (OpenSpec.upto fnExactLevelOfSpec)) fnExactLevelOfUptoCard
end Rows
end Go.Proofs.YtaceknlimlnpgaaDoor
