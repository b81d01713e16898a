import Derived.Test.YtppmlbofhghghaaGreatDoorG34
namespace Go.Proofs.YtppmlbofhghghaaGreatDoor
open Go.RowKit
namespace Pl
theorem chg_long {L : List Nd} {n : Nd} {c : Int} (h : ¬ (n.path.size ≤ 8000 ∧ n.data.size ≤ 8000)) : chgC L n c = 2 := by rw [chgC, if_neg h]
theorem yj {L : List Nd} {n : Nd} {c : Int} (h : n.path.size ≤ 8000 ∧ n.data.size ≤ 8000) (h2 : zd1 L = false ∨ zb n = false) : chgC L n c = 1 := by
 rw [chgC, if_pos h, if_neg]
 rcases h2 with h2 | h2 <;> simp [h2]
theorem zw0 {L : List Nd} {n : Nd} {c : Int} (h : n.path.size ≤ 8000 ∧ n.data.size ≤ 8000) (h2 : zd1 L = true) (h3 : zb n = true) : chgC L n c = c := by rw [chgC, if_pos h, if_pos ⟨h2, h3⟩]
end Pl
end Go.Proofs.YtppmlbofhghghaaGreatDoor
