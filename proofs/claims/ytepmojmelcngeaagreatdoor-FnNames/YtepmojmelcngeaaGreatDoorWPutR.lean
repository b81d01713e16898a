/- Bounds of a right tree. -/
import Derived.Test.YtepmojmelcngeaaGreatDoorG28
import Derived.Test.YtepmojmelcngeaaGreatDoorG22
namespace Go.Proofs.YtepmojmelcngeaaGreatDoor
open Go.RowKit
namespace WPutB
theorem right_bounds {L : List Pl.Nd} (h : Pl.treeB L = true) : L.length ≤ 40 ∧ ∀ m ∈ L, m.path.size ≤ 200 := by
  simp only [Pl.treeB, Bool.and_eq_true, decide_eq_true_eq] at h
  exact ⟨h.1, fun m hm => Pl.pathB_le (Pl.node_right (Pl.goI_all L _ _ h.2 m hm)).1⟩
end WPutB
end Go.Proofs.YtepmojmelcngeaaGreatDoor
