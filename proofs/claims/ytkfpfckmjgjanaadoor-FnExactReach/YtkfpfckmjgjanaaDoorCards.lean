/-
  DERIVED. GIVEN WITH THE SEED: THE CARDS: each row of YtkfpfckmjgjanaaDoorRows.lean that lists a variable, with what it lists TIED to the program's text (the seventh form; the later family's looks); each row that meets fmt, with fmt's text TOLD by the authors' own Lean function (tested against real Go, not proved from fmt's source: count such statements apart). THE CARD IS WHAT COUNTS. Prove the row's statement (the work); the ties are given (YtkfpfckmjgjanaaDoorTie.lean); close each card by the builder's one call (the guide's Derived/Test/ToyasCard.lean, 'card_holds'). Laid BY PROGRAM, IN A SANDBOX (cutbox-door.mjs). By AI agents, Wed Nov 11 2026. No macro, syntax, notation, axiom, sorry.
-/
import Derived.Test.YtkfpfckmjgjanaaDoorRows
import GoSem.ClaimSeven
namespace Go.Proofs.YtkfpfckmjgjanaaDoor
namespace Rows

/-- THE TIED CARD OF 'laws.FnExactReach'. -/
def fnExactReachCard : Claim7 := { stood := { row := fnExactReachRow, standIns := [], harness := (true, "99d0f084dfbccae15cfeeb43e98a6abc06985219b736524f30fcae787553a860"), looks := false }, kinds := [], alts := [], laidByText := true, laidKinds := [.sentinel, .sentinel, .sentinel, .sentinel], laidTests := true, laidLooks := .later }
def FnExactReachCardSaid : Prop := Claim7.holds Tryd.pinned (.plain (OpenSpec.ofChange fnExactReachSpec)) fnExactReachCard

/-- THE TIED CARD OF 'laws.FnTreeBytes'. -/
def fnTreeBytesCard : Claim7 := { stood := { row := fnTreeBytesRow, standIns := [], harness := (true, "99d0f084dfbccae15cfeeb43e98a6abc06985219b736524f30fcae787553a860"), looks := false }, kinds := [], alts := [], laidByText := true, laidKinds := [.sentinel, .sentinel, .sentinel], laidTests := true, laidLooks := .later }
def FnTreeBytesCardSaid : Prop := Claim7.holds Tryd.pinned (.plain (OpenSpec.ofChange fnTreeBytesSpec)) fnTreeBytesCard

/-- THE TIED CARD OF 'laws.FnExactTreeBytes'. -/
def fnExactTreeBytesCard : Claim7 := { stood := { row := fnExactTreeBytesRow, standIns := [], harness := (true, "99d0f084dfbccae15cfeeb43e98a6abc06985219b736524f30fcae787553a860"), looks := false }, kinds := [], alts := [], laidByText := true, laidKinds := [.sentinel, .sentinel, .sentinel], laidTests := true, laidLooks := .later }
def FnExactTreeBytesCardSaid : Prop := Claim7.holds Tryd.pinned (.plain (OpenSpec.ofChange fnExactTreeBytesSpec)) fnExactTreeBytesCard

/-- THE TIED CARD OF 'laws.FnExactTreeRead'. -/
def fnExactTreeReadCard : Claim7 := { stood := { row := fnExactTreeReadRow, standIns := [], harness := (true, "99d0f084dfbccae15cfeeb43e98a6abc06985219b736524f30fcae787553a860"), looks := false }, kinds := [], alts := [], laidByText := true, laidKinds := [.sentinel, .sentinel, .sentinel], laidTests := true, laidLooks := .later }
def FnExactTreeReadCardSaid : Prop := Claim7.holds Tryd.pinned (.plain (OpenSpec.ofChange fnExactTreeReadSpec)) fnExactTreeReadCard

/-- THE TIED CARD OF 'laws.FnExactTreeCount'. -/
def fnExactTreeCountCard : Claim7 := { stood := { row := fnExactTreeCountRow, standIns := [], harness := (true, "99d0f084dfbccae15cfeeb43e98a6abc06985219b736524f30fcae787553a860"), looks := false }, kinds := [], alts := [], laidByText := true, laidKinds := [.sentinel, .sentinel, .sentinel], laidTests := true, laidLooks := .later }
def FnExactTreeCountCardSaid : Prop := Claim7.holds Tryd.pinned (.plain (OpenSpec.ofChange fnExactTreeCountSpec)) fnExactTreeCountCard

/-- THE TIED CARD OF 'laws.FnExactTreeSame'. -/
def fnExactTreeSameCard : Claim7 := { stood := { row := fnExactTreeSameRow, standIns := [], harness := (true, "99d0f084dfbccae15cfeeb43e98a6abc06985219b736524f30fcae787553a860"), looks := false }, kinds := [], alts := [], laidByText := true, laidKinds := [.sentinel, .sentinel, .sentinel], laidTests := true, laidLooks := .later }
def FnExactTreeSameCardSaid : Prop := Claim7.holds Tryd.pinned (.plain (OpenSpec.ofChange fnExactTreeSameSpec)) fnExactTreeSameCard

/-- THE SECOND FORM's CARD OF 'laws.FnExactReach'. -/
def fnExactReachUptoCard : Claim7 := { stood := { row := fnExactReachUptoRow, standIns := [], harness := (true, "99d0f084dfbccae15cfeeb43e98a6abc06985219b736524f30fcae787553a860"), looks := false }, kinds := [], alts := [], laidByText := true, laidKinds := [.sentinel, .sentinel, .sentinel, .sentinel], laidTests := true, laidLooks := .later }
def FnExactReachUptoCardSaid : Prop := Claim7.holds Tryd.pinned (.plain (OpenSpec.upto fnExactReachSpec)) fnExactReachUptoCard

/-- THE SECOND FORM's CARD OF 'laws.FnTreeBytes'. -/
def fnTreeBytesUptoCard : Claim7 := { stood := { row := fnTreeBytesUptoRow, standIns := [], harness := (true, "99d0f084dfbccae15cfeeb43e98a6abc06985219b736524f30fcae787553a860"), looks := false }, kinds := [], alts := [], laidByText := true, laidKinds := [.sentinel, .sentinel, .sentinel], laidTests := true, laidLooks := .later }
def FnTreeBytesUptoCardSaid : Prop := Claim7.holds Tryd.pinned (.plain (OpenSpec.upto fnTreeBytesSpec)) fnTreeBytesUptoCard

/-- THE SECOND FORM's CARD OF 'laws.FnExactTreeBytes'. -/
def fnExactTreeBytesUptoCard : Claim7 := { stood := { row := fnExactTreeBytesUptoRow, standIns := [], harness := (true, "99d0f084dfbccae15cfeeb43e98a6abc06985219b736524f30fcae787553a860"), looks := false }, kinds := [], alts := [], laidByText := true, laidKinds := [.sentinel, .sentinel, .sentinel], laidTests := true, laidLooks := .later }
def FnExactTreeBytesUptoCardSaid : Prop := Claim7.holds Tryd.pinned (.plain (OpenSpec.upto fnExactTreeBytesSpec)) fnExactTreeBytesUptoCard

/-- THE SECOND FORM's CARD OF 'laws.FnExactTreeRead'. -/
def fnExactTreeReadUptoCard : Claim7 := { stood := { row := fnExactTreeReadUptoRow, standIns := [], harness := (true, "99d0f084dfbccae15cfeeb43e98a6abc06985219b736524f30fcae787553a860"), looks := false }, kinds := [], alts := [], laidByText := true, laidKinds := [.sentinel, .sentinel, .sentinel], laidTests := true, laidLooks := .later }
def FnExactTreeReadUptoCardSaid : Prop := Claim7.holds Tryd.pinned (.plain (OpenSpec.upto fnExactTreeReadSpec)) fnExactTreeReadUptoCard

/-- THE SECOND FORM's CARD OF 'laws.FnExactTreeCount'. -/
def fnExactTreeCountUptoCard : Claim7 := { stood := { row := fnExactTreeCountUptoRow, standIns := [], harness := (true, "99d0f084dfbccae15cfeeb43e98a6abc06985219b736524f30fcae787553a860"), looks := false }, kinds := [], alts := [], laidByText := true, laidKinds := [.sentinel, .sentinel, .sentinel], laidTests := true, laidLooks := .later }
def FnExactTreeCountUptoCardSaid : Prop := Claim7.holds Tryd.pinned (.plain (OpenSpec.upto fnExactTreeCountSpec)) fnExactTreeCountUptoCard

/-- THE SECOND FORM's CARD OF 'laws.FnExactTreeSame'. -/
def fnExactTreeSameUptoCard : Claim7 := { stood := { row := fnExactTreeSameUptoRow, standIns := [], harness := (true, "99d0f084dfbccae15cfeeb43e98a6abc06985219b736524f30fcae787553a860"), looks := false }, kinds := [], alts := [], laidByText := true, laidKinds := [.sentinel, .sentinel, .sentinel], laidTests := true, laidLooks := .later }
def FnExactTreeSameUptoCardSaid : Prop := Claim7.holds Tryd.pinned (.plain (OpenSpec.upto fnExactTreeSameSpec)) fnExactTreeSameUptoCard
end Rows
end Go.Proofs.YtkfpfckmjgjanaaDoor
