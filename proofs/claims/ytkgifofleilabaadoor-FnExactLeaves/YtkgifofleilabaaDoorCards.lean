/-
  DERIVED. GIVEN WITH THE SEED: THE CARDS: each row of YtkgifofleilabaaDoorRows.lean that lists a variable, with what it lists TIED to the program's text (the seventh form; the later family's looks); each row that meets fmt, with fmt's text TOLD by the authors' own Lean function (tested against real Go, not proved from fmt's source: count such statements apart). THE CARD IS WHAT COUNTS. Prove the row's statement (the work); the ties are given (YtkgifofleilabaaDoorTie.lean); close each card by the builder's one call (the guide's Derived/Test/ToyasCard.lean, 'card_holds'). Laid BY PROGRAM, IN A SANDBOX (cutbox-door.mjs). By AI agents, Wed Nov 11 2026. No macro, syntax, notation, axiom, sorry.
-/
import Derived.Test.YtkgifofleilabaaDoorRows
import GoSem.ClaimSeven
namespace Go.Proofs.YtkgifofleilabaaDoor
namespace Rows

/-- THE TIED CARD OF 'laws.FnExactNestDepth'. -/
def fnExactNestDepthCard : Claim7 := { stood := { row := fnExactNestDepthRow, standIns := [], harness := (true, "78de483e4b10d01823fe52618e441b5bc72fc752b49e71f5aef15f8e3ab85110"), looks := false }, kinds := [], alts := [], laidByText := true, laidKinds := [.sentinel, .sentinel, .sentinel, .sentinel], laidTests := true, laidLooks := .later }
def FnExactNestDepthCardSaid : Prop := Claim7.holds Tryd.pinned (.plain (OpenSpec.ofChange fnExactNestDepthSpec)) fnExactNestDepthCard

/-- THE TIED CARD OF 'laws.FnExactLeaves'. -/
def fnExactLeavesCard : Claim7 := { stood := { row := fnExactLeavesRow, standIns := [], harness := (true, "78de483e4b10d01823fe52618e441b5bc72fc752b49e71f5aef15f8e3ab85110"), looks := false }, kinds := [], alts := [], laidByText := true, laidKinds := [.sentinel, .sentinel, .sentinel, .sentinel], laidTests := true, laidLooks := .later }
def FnExactLeavesCardSaid : Prop := Claim7.holds Tryd.pinned (.plain (OpenSpec.ofChange fnExactLeavesSpec)) fnExactLeavesCard

/-- THE SECOND FORM's CARD OF 'laws.FnExactNestDepth'. -/
def fnExactNestDepthUptoCard : Claim7 := { stood := { row := fnExactNestDepthUptoRow, standIns := [], harness := (true, "78de483e4b10d01823fe52618e441b5bc72fc752b49e71f5aef15f8e3ab85110"), looks := false }, kinds := [], alts := [], laidByText := true, laidKinds := [.sentinel, .sentinel, .sentinel, .sentinel], laidTests := true, laidLooks := .later }
def FnExactNestDepthUptoCardSaid : Prop := Claim7.holds Tryd.pinned (.plain (OpenSpec.upto fnExactNestDepthSpec)) fnExactNestDepthUptoCard

/-- THE SECOND FORM's CARD OF 'laws.FnExactLeaves'. -/
def fnExactLeavesUptoCard : Claim7 := { stood := { row := fnExactLeavesUptoRow, standIns := [], harness := (true, "78de483e4b10d01823fe52618e441b5bc72fc752b49e71f5aef15f8e3ab85110"), looks := false }, kinds := [], alts := [], laidByText := true, laidKinds := [.sentinel, .sentinel, .sentinel, .sentinel], laidTests := true, laidLooks := .later }
def FnExactLeavesUptoCardSaid : Prop := Claim7.holds Tryd.pinned (.plain (OpenSpec.upto fnExactLeavesSpec)) fnExactLeavesUptoCard
end Rows
end Go.Proofs.YtkgifofleilabaaDoor
