/-
  DERIVED. GIVEN WITH THE SEED: THE CARDS: each row of YtnbmpbfligdcjaaDoorRows.lean that lists a variable, with what it lists TIED to the program's text (the seventh form; the later family's looks); each row that meets fmt, with fmt's text TOLD by the authors' own Lean function (tested against real Go, not proved from fmt's source: count such statements apart). THE CARD IS WHAT COUNTS. Prove the row's statement (the work); the ties are given (YtnbmpbfligdcjaaDoorTie.lean); close each card by the builder's one call (the guide's Derived/Test/ToyasCard.lean, 'card_holds'). Laid BY PROGRAM, IN A SANDBOX (cutbox-door.mjs). By AI agents, Wed Nov 11 2026. No macro, syntax, notation, axiom, sorry.
-/
import Derived.Test.YtnbmpbfligdcjaaDoorRows
import GoSem.ClaimSeven
namespace Go.Proofs.YtnbmpbfligdcjaaDoor
namespace Rows

/-- THE TIED CARD OF 'laws.FnExactTreeBytes'. -/
def fnExactTreeBytesCard : Claim7 := { stood := { row := fnExactTreeBytesRow, standIns := [], harness := (true, "f48d5ffd67e814423fdc232c28bfc0636c164b40c29d49f40f711efca153be22"), looks := false }, kinds := [], alts := [], laidByText := true, laidKinds := [.sentinel, .sentinel, .sentinel], laidTests := true, laidLooks := .later }
def FnExactTreeBytesCardSaid : Prop := Claim7.holds Tryd.pinned (.plain (OpenSpec.ofChange fnExactTreeBytesSpec)) fnExactTreeBytesCard

/-- THE TIED CARD OF 'laws.FnExactTreeRead'. -/
def fnExactTreeReadCard : Claim7 := { stood := { row := fnExactTreeReadRow, standIns := [], harness := (true, "f48d5ffd67e814423fdc232c28bfc0636c164b40c29d49f40f711efca153be22"), looks := false }, kinds := [], alts := [], laidByText := true, laidKinds := [.sentinel, .sentinel, .sentinel], laidTests := true, laidLooks := .later }
def FnExactTreeReadCardSaid : Prop := Claim7.holds Tryd.pinned (.plain (OpenSpec.ofChange fnExactTreeReadSpec)) fnExactTreeReadCard

/-- THE TIED CARD OF 'laws.FnExactNestBytes'. -/
def fnExactNestBytesCard : Claim7 := { stood := { row := fnExactNestBytesRow, standIns := [], harness := (true, "f48d5ffd67e814423fdc232c28bfc0636c164b40c29d49f40f711efca153be22"), looks := false }, kinds := [], alts := [], laidByText := true, laidKinds := [.sentinel, .sentinel, .sentinel, .sentinel], laidTests := true, laidLooks := .later }
def FnExactNestBytesCardSaid : Prop := Claim7.holds Tryd.pinned (.plain (OpenSpec.ofChange fnExactNestBytesSpec)) fnExactNestBytesCard

/-- THE TIED CARD OF 'laws.FnExactNestRead'. -/
def fnExactNestReadCard : Claim7 := { stood := { row := fnExactNestReadRow, standIns := [], harness := (true, "f48d5ffd67e814423fdc232c28bfc0636c164b40c29d49f40f711efca153be22"), looks := false }, kinds := [], alts := [], laidByText := true, laidKinds := [.sentinel, .sentinel, .sentinel, .sentinel], laidTests := true, laidLooks := .later }
def FnExactNestReadCardSaid : Prop := Claim7.holds Tryd.pinned (.plain (OpenSpec.ofChange fnExactNestReadSpec)) fnExactNestReadCard

/-- THE SECOND FORM's CARD OF 'laws.FnExactTreeBytes'. -/
def fnExactTreeBytesUptoCard : Claim7 := { stood := { row := fnExactTreeBytesUptoRow, standIns := [], harness := (true, "f48d5ffd67e814423fdc232c28bfc0636c164b40c29d49f40f711efca153be22"), looks := false }, kinds := [], alts := [], laidByText := true, laidKinds := [.sentinel, .sentinel, .sentinel], laidTests := true, laidLooks := .later }
def FnExactTreeBytesUptoCardSaid : Prop := Claim7.holds Tryd.pinned (.plain (OpenSpec.upto fnExactTreeBytesSpec)) fnExactTreeBytesUptoCard

/-- THE SECOND FORM's CARD OF 'laws.FnExactTreeRead'. -/
def fnExactTreeReadUptoCard : Claim7 := { stood := { row := fnExactTreeReadUptoRow, standIns := [], harness := (true, "f48d5ffd67e814423fdc232c28bfc0636c164b40c29d49f40f711efca153be22"), looks := false }, kinds := [], alts := [], laidByText := true, laidKinds := [.sentinel, .sentinel, .sentinel], laidTests := true, laidLooks := .later }
def FnExactTreeReadUptoCardSaid : Prop := Claim7.holds Tryd.pinned (.plain (OpenSpec.upto fnExactTreeReadSpec)) fnExactTreeReadUptoCard

/-- THE SECOND FORM's CARD OF 'laws.FnExactNestBytes'. -/
def fnExactNestBytesUptoCard : Claim7 := { stood := { row := fnExactNestBytesUptoRow, standIns := [], harness := (true, "f48d5ffd67e814423fdc232c28bfc0636c164b40c29d49f40f711efca153be22"), looks := false }, kinds := [], alts := [], laidByText := true, laidKinds := [.sentinel, .sentinel, .sentinel, .sentinel], laidTests := true, laidLooks := .later }
def FnExactNestBytesUptoCardSaid : Prop := Claim7.holds Tryd.pinned (.plain (OpenSpec.upto fnExactNestBytesSpec)) fnExactNestBytesUptoCard

/-- THE SECOND FORM's CARD OF 'laws.FnExactNestRead'. -/
def fnExactNestReadUptoCard : Claim7 := { stood := { row := fnExactNestReadUptoRow, standIns := [], harness := (true, "f48d5ffd67e814423fdc232c28bfc0636c164b40c29d49f40f711efca153be22"), looks := false }, kinds := [], alts := [], laidByText := true, laidKinds := [.sentinel, .sentinel, .sentinel, .sentinel], laidTests := true, laidLooks := .later }
def FnExactNestReadUptoCardSaid : Prop := Claim7.holds Tryd.pinned (.plain (OpenSpec.upto fnExactNestReadSpec)) fnExactNestReadUptoCard
end Rows
end Go.Proofs.YtnbmpbfligdcjaaDoor
