/-
  DERIVED. GIVEN WITH THE SEED: THE CARDS: each row of YtcogaghibpajjaaGreatDoorRows.lean that lists a variable, with what it lists TIED to the program's text (the seventh form; the later family's looks); each row that meets fmt, with fmt's text TOLD by the authors' own Lean function (tested against real Go, not proved from fmt's source: count such statements apart). THE CARD IS WHAT COUNTS. Prove the row's statement (the work); the ties are given (YtcogaghibpajjaaGreatDoorTie.lean); close each card by the builder's one call (the guide's Derived/Test/ToyasCard.lean, 'card_holds'). Laid BY PROGRAM, IN A SANDBOX (cutbox-door.mjs). By AI agents, Wed Nov 11 2026. No macro, syntax, notation, axiom, sorry.
-/
import Derived.Test.YtcogaghibpajjaaGreatDoorRows
import GoSem.ClaimSeven
namespace Go.Proofs.YtcogaghibpajjaaGreatDoor
namespace Rows

/-- THE TIED CARD OF 'laws.FnView'. -/
def fnViewCard : Claim7 := { stood := { row := fnViewRow, standIns := [], harness := (true, "d89bd6f8ca6b23c7a8a818b72a1e08c595a24d64b4017eac1f6e1fbd940d156e"), looks := true }, kinds := [], alts := [], laidByText := true, laidKinds := [.sentinel, .sentinel, .sentinel, .sentinel, .sentinel, .sentinel], laidTests := true, laidLooks := .later }
def FnViewCardSaid : Prop := Claim7.holds Tryz.pinned (.plain (OpenSpec.ofChange fnViewSpec)) fnViewCard

/-- THE SECOND FORM's CARD OF 'laws.FnView'. -/
def fnViewUptoCard : Claim7 := { stood := { row := fnViewUptoRow, standIns := [], harness := (true, "d89bd6f8ca6b23c7a8a818b72a1e08c595a24d64b4017eac1f6e1fbd940d156e"), looks := true }, kinds := [], alts := [], laidByText := true, laidKinds := [.sentinel, .sentinel, .sentinel, .sentinel, .sentinel, .sentinel], laidTests := true, laidLooks := .later }
def FnViewUptoCardSaid : Prop := Claim7.holds Tryz.pinned (.plain (OpenSpec.upto fnViewSpec)) fnViewUptoCard
end Rows
end Go.Proofs.YtcogaghibpajjaaGreatDoor
