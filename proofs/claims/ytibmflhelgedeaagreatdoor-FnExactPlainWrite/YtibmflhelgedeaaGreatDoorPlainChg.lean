/- The code of a change in a plain tree, case by case. -/
import Derived.Test.YtibmflhelgedeaaGreatDoorG64
import Derived.Test.YtibmflhelgedeaaGreatDoorG11
namespace Go.Proofs.YtibmflhelgedeaaGreatDoor
open Go.RowKit
namespace Pl
theorem chg_long {L : List Nd} {n : Nd} {c : Int} (h : ¬ (n.path.size ≤ 8000 ∧ n.data.size ≤ 8000)) : chgC L n c = 2 := by rw [chgC, if_neg h]
theorem chg_form {L : List Nd} {n : Nd} {c : Int} (h : n.path.size ≤ 8000 ∧ n.data.size ≤ 8000) (h2 : plainB L = false ∨ nodeB n = false) : chgC L n c = 1 := by
  rw [chgC, if_pos h, if_neg]
  rcases h2 with h2 | h2 <;> simp [h2]
theorem chg_go {L : List Nd} {n : Nd} {c : Int} (h : n.path.size ≤ 8000 ∧ n.data.size ≤ 8000) (h2 : plainB L = true) (h3 : nodeB n = true) : chgC L n c = c := by rw [chgC, if_pos h, if_pos ⟨h2, h3⟩]
theorem chgP_max {L : List Nd} {n : Nd} {c : Int} (h : L.length ≤ 1048576) : (chgO L n c (putL L n)).length ≤ 1048576 := by
  unfold chgO
  split
  · next h0 =>
    by_cases hs : n.path.size ≤ 8000 ∧ n.data.size ≤ 8000
    · by_cases hp : plainB L = true
      · have h1 : treeB L = true := plain_tree hp
        have h2 : L.length ≤ 40 := (tree_rise h1).2.2
        have := put_len L n
        omega
      · rw [chg_form hs (.inl (by simpa using hp))] at h0
        cases h0
    · rw [chg_long hs] at h0
      cases h0
  · exact Nat.zero_le _
end Pl
end Go.Proofs.YtibmflhelgedeaaGreatDoor
