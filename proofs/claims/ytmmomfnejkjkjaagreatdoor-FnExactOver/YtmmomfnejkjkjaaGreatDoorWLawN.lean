/- The walks of the laws' own functions on nodes. -/
import Derived.Test.YtmmomfnejkjkjaaGreatDoorPartA
import Derived.Test.YtmmomfnejkjkjaaGreatDoorProg
namespace Go.Proofs.YtmmomfnejkjkjaaGreatDoor
open Go.RowKit
namespace WLaw
set_option maxRecDepth 100000 in
/-- What is left of a size behind a node: below 0 if it is used up. -/
theorem szNode_any (n : Pl.Nd) (left : Int) (w : World) (hp : n.path.size ≤ maxLen) (hd : n.data.size ≤ maxLen) (h0 : 0 ≤ left) (h1 : left ≤ 1048576) :
    Calls Tryz.prog 90 #[n.val, .int .i64 left] w fun e w' => (∃ r : Int, e = .returned (.int .i64 r) ∧ (r = -1 ∨ 0 ≤ r ∧ r + n.path.size + n.data.size = left)) ∧ Below w.heap.size w w' := by
  obtain ⟨p, k, d, t, m⟩ := n
  simp only at hp hd
  unfold maxLen at hp hd
  simp only [Pl.Nd.val]
  have hb : ∀ o, Below w.heap.size w (w.alloc o) := fun o => (Below.refl _ _).alloc (Nat.le_refl _) o
  have HB := hide hb
  clear hb
  by_cases h2 : left < (p.size : Int)
  · have t2 : left - (p.size : Int) < 0 := by omega
    go_enter Tryz.func90, Tryz.ntmps90
    go_wp2
    go_ret
    exact ⟨⟨-1, rfl, .inl rfl⟩, unhide HB _⟩
  have t2 : ¬ left - (p.size : Int) < 0 := by omega
  by_cases h3 : left < (p.size : Int) + (d.size : Int)
  · have t3 : left - (p.size : Int) - (d.size : Int) < 0 := by omega
    go_enter Tryz.func90, Tryz.ntmps90
    go_wp2
    go_ret
    exact ⟨⟨-1, rfl, .inl rfl⟩, unhide HB _⟩
  · have t3 : ¬ left - (p.size : Int) - (d.size : Int) < 0 := by omega
    go_enter Tryz.func90, Tryz.ntmps90
    go_wp2
    go_ret
    exact ⟨⟨_, rfl, .inr ⟨by omega, by omega⟩⟩, unhide HB _⟩
set_option maxRecDepth 100000 in
theorem toNode_any (n : Pl.Nd) (w : World) :
    Calls Tryz.prog 99 #[n.val] w fun e w' => e = .returned n.val ∧ Below w.heap.size w w' := by
  obtain ⟨p, k, d, t, m⟩ := n
  simp only [Pl.Nd.val]
  go_enter Tryz.func99, Tryz.ntmps99
  go_wp2
  refine bodyPost_ret (v := .agg #[.string p, .int .i64 k, .string d, .int .i64 t, .int .i64 m]) (by simp [results, Tryz.results99, go_sem]) rfl ⟨rfl, ?_⟩
  exact (((Below.refl _ _).alloc (Nat.le_refl _) _).alloc (by simp) _).alloc (by simp; omega) _
end WLaw
end Go.Proofs.YtmmomfnejkjkjaaGreatDoor
