/- Rows of nodes through a store elsewhere. -/
import Derived.Test.YtmmomfnejkjkjaaGreatDoorPartA
import Derived.Deep.RegionHeld3
namespace Go.Proofs.YtmmomfnejkjkjaaGreatDoor
open Go.RowKit
namespace Mem
theorem nodes_far {w : World} {g o : Nat} {L : List Pl.Nd} (h : isNodes w (some ⟨g, o, none⟩) L) (p : Addr) (v : Value) (hp : p.block ≠ g) : isNodes (w.setCell p v) (some ⟨g, o, none⟩) L := fun i n hi => by
  obtain ⟨g', o', h1, h2, h3, h4, h5, h6, h7⟩ := h i n hi
  cases h1
  refine ⟨g, o, rfl, by simpa using h2, ?_, ?_, ?_, ?_, ?_⟩ <;> (rw [World.cell?_setCell_far _ _ _ _ hp]; assumption)
end Mem
end Go.Proofs.YtmmomfnejkjkjaaGreatDoor
