/-
  DERIVED. GIVEN WITH THE SEED: THE CARDS: each row of YtmiknmnjepglkaaDoorRows.lean that lists a variable, with what it lists TIED to the program's text (the seventh form; the later family's looks); each row that meets fmt, with fmt's text TOLD by the authors' own Lean function (tested against real Go, not proved from fmt's source: count such statements apart). THE CARD IS WHAT COUNTS. Prove the row's statement (the work); the ties are given (YtmiknmnjepglkaaDoorTie.lean); close each card by the builder's one call (the guide's Derived/Test/ToyasCard.lean, 'card_holds'). Laid BY PROGRAM, IN A SANDBOX (cutbox-door.mjs). By AI agents, Wed Nov 11 2026. No macro, syntax, notation, axiom, sorry.
-/
import Derived.Test.YtmiknmnjepglkaaDoorRows
import GoSem.ClaimSeven
namespace Go.Proofs.YtmiknmnjepglkaaDoor
namespace Rows

/-- THE TIED CARD OF 'laws.FnExactPlainRemove'. -/
def fnExactPlainRemoveCard : Claim7 := { stood := { row := fnExactPlainRemoveRow, standIns := [], harness := (true, "b946fbe9eee9e00fe928aa2842e6ce54b5a901a94d704891f6857e8c389d14fd"), looks := true }, kinds := [], alts := [], laidByText := true, laidKinds := [.sentinel, .sentinel, .sentinel], laidTests := true, laidLooks := .later }
def FnExactPlainRemoveCardSaid : Prop := Claim7.holds Tryd.pinned (.plain (OpenSpec.ofChange fnExactPlainRemoveSpec)) fnExactPlainRemoveCard

/-- THE TIED CARD OF 'laws.FnExactPlainTouch'. -/
def fnExactPlainTouchCard : Claim7 := { stood := { row := fnExactPlainTouchRow, standIns := [], harness := (true, "b946fbe9eee9e00fe928aa2842e6ce54b5a901a94d704891f6857e8c389d14fd"), looks := true }, kinds := [], alts := [], laidByText := true, laidKinds := [.sentinel, .sentinel, .sentinel], laidTests := true, laidLooks := .later }
def FnExactPlainTouchCardSaid : Prop := Claim7.holds Tryd.pinned (.plain (OpenSpec.ofChange fnExactPlainTouchSpec)) fnExactPlainTouchCard

/-- THE SECOND FORM's CARD OF 'laws.FnExactPlainRemove'. -/
def fnExactPlainRemoveUptoCard : Claim7 := { stood := { row := fnExactPlainRemoveUptoRow, standIns := [], harness := (true, "b946fbe9eee9e00fe928aa2842e6ce54b5a901a94d704891f6857e8c389d14fd"), looks := true }, kinds := [], alts := [], laidByText := true, laidKinds := [.sentinel, .sentinel, .sentinel], laidTests := true, laidLooks := .later }
def FnExactPlainRemoveUptoCardSaid : Prop := Claim7.holds Tryd.pinned (.plain (OpenSpec.upto fnExactPlainRemoveSpec)) fnExactPlainRemoveUptoCard

/-- THE SECOND FORM's CARD OF 'laws.FnExactPlainTouch'. -/
def fnExactPlainTouchUptoCard : Claim7 := { stood := { row := fnExactPlainTouchUptoRow, standIns := [], harness := (true, "b946fbe9eee9e00fe928aa2842e6ce54b5a901a94d704891f6857e8c389d14fd"), looks := true }, kinds := [], alts := [], laidByText := true, laidKinds := [.sentinel, .sentinel, .sentinel], laidTests := true, laidLooks := .later }
def FnExactPlainTouchUptoCardSaid : Prop := Claim7.holds Tryd.pinned (.plain (OpenSpec.upto fnExactPlainTouchSpec)) fnExactPlainTouchUptoCard
end Rows
end Go.Proofs.YtmiknmnjepglkaaDoor
