/-
  DERIVED. GIVEN WITH THE SEED: THE CARDS: each row of YtlgbdbmikmbioaaDoorRows.lean that lists a variable, with what it lists TIED to the program's text (the seventh form; the later family's looks); each row that meets fmt, with fmt's text TOLD by the authors' own Lean function (tested against real Go, not proved from fmt's source: count such statements apart). THE CARD IS WHAT COUNTS. Prove the row's statement (the work); the ties are given (YtlgbdbmikmbioaaDoorTie.lean); close each card by the builder's one call (the guide's Derived/Test/ToyasCard.lean, 'card_holds'). Laid BY PROGRAM, IN A SANDBOX (cutbox-door.mjs). By AI agents, Wed Nov 11 2026. No macro, syntax, notation, axiom, sorry.
-/
import Derived.Test.YtlgbdbmikmbioaaDoorRows
import GoSem.ClaimSeven
namespace Go.Proofs.YtlgbdbmikmbioaaDoor
namespace Rows

/-- THE TIED CARD OF 'laws.FnExactSpaceRight'. -/
def fnExactSpaceRightCard : Claim7 := { stood := { row := fnExactSpaceRightRow, standIns := [], harness := (true, "2b2717b9ab5ad81872acddebb8a1201a93790cfc78d0e8735a352fd2bb3125da"), looks := false }, kinds := [], alts := [], laidByText := true, laidKinds := [.sentinel, .sentinel, .sentinel, .sentinel], laidTests := true, laidLooks := .later }
def FnExactSpaceRightCardSaid : Prop := Claim7.holds Tryd.pinned (.plain (OpenSpec.ofChange fnExactSpaceRightSpec)) fnExactSpaceRightCard

/-- THE TIED CARD OF 'laws.FnExactHeld'. -/
def fnExactHeldCard : Claim7 := { stood := { row := fnExactHeldRow, standIns := [], harness := (true, "2b2717b9ab5ad81872acddebb8a1201a93790cfc78d0e8735a352fd2bb3125da"), looks := false }, kinds := [], alts := [], laidByText := true, laidKinds := [.sentinel, .sentinel, .sentinel, .sentinel], laidTests := true, laidLooks := .later }
def FnExactHeldCardSaid : Prop := Claim7.holds Tryd.pinned (.plain (OpenSpec.ofChange fnExactHeldSpec)) fnExactHeldCard

/-- THE SECOND FORM's CARD OF 'laws.FnExactSpaceRight'. -/
def fnExactSpaceRightUptoCard : Claim7 := { stood := { row := fnExactSpaceRightUptoRow, standIns := [], harness := (true, "2b2717b9ab5ad81872acddebb8a1201a93790cfc78d0e8735a352fd2bb3125da"), looks := false }, kinds := [], alts := [], laidByText := true, laidKinds := [.sentinel, .sentinel, .sentinel, .sentinel], laidTests := true, laidLooks := .later }
def FnExactSpaceRightUptoCardSaid : Prop := Claim7.holds Tryd.pinned (.plain (OpenSpec.upto fnExactSpaceRightSpec)) fnExactSpaceRightUptoCard

/-- THE SECOND FORM's CARD OF 'laws.FnExactHeld'. -/
def fnExactHeldUptoCard : Claim7 := { stood := { row := fnExactHeldUptoRow, standIns := [], harness := (true, "2b2717b9ab5ad81872acddebb8a1201a93790cfc78d0e8735a352fd2bb3125da"), looks := false }, kinds := [], alts := [], laidByText := true, laidKinds := [.sentinel, .sentinel, .sentinel, .sentinel], laidTests := true, laidLooks := .later }
def FnExactHeldUptoCardSaid : Prop := Claim7.holds Tryd.pinned (.plain (OpenSpec.upto fnExactHeldSpec)) fnExactHeldUptoCard
end Rows
end Go.Proofs.YtlgbdbmikmbioaaDoor
