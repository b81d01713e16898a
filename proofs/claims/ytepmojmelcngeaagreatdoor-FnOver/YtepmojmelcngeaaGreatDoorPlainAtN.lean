/- The specification's way down a path is what is seen there (of WSeenS). -/
import Derived.Test.YtepmojmelcngeaaGreatDoorG57
import Derived.Test.YtepmojmelcngeaaGreatDoorG34
import Derived.Test.YtepmojmelcngeaaGreatDoorG04
import Derived.Test.YtepmojmelcngeaaGreatDoorG36
import Derived.Deep.Cut
namespace Go.Proofs.YtepmojmelcngeaaGreatDoor
open Go.RowKit
namespace Pl
theorem names_right {p : ByteArray} (h : pathB p = true) : ∀ t ∈ names p, nameB t = true := by
  have e := (namesR_all p).1
  rw [namesR_yes h] at e
  exact e
theorem names_six {p : ByteArray} (h : pathB p = true) : (names p).length ≤ 6 := by
  have e := (namesR_all p).2
  rw [namesR_yes h] at e
  exact e
theorem names_some {p : ByteArray} (h : ¬ p.size = 0) : 1 ≤ (names p).length := by
  unfold names
  rw [if_neg h]
  exact cut_pos p
theorem way_small {p : ByteArray} (h : pathB p = true) (j : Nat) : (glue ((names p).take j)).size ≤ 1048576 := by
  have := glue_small (all_take (names_right h) j) (by rw [List.length_take]; have := names_six h; omega)
  omega
theorem root_parts {n : Nat} (h : n ≤ 4) : (rootS n).have' = partsB (List.range n) := by
  obtain rfl | rfl | rfl | rfl | rfl : n = 0 ∨ n = 1 ∨ n = 2 ∨ n = 3 ∨ n = 4 := by omega
  all_goals decide
theorem at_seen {Ts : List Tr} {p : ByteArray} (h4 : Ts.length ≤ 4) (htr : ∀ M ∈ Ts.map (·.L), treeB M = true) (hz : ¬ p.size = 0) (hp : pathB p = true) :
    (atW (Ts.map (·.L)) (List.range Ts.length) (ways (names p) (names p).length)).ok = (seenS (Ts.map (·.L)) p).told ∧ ((atW (Ts.map (·.L)) (List.range Ts.length) (ways (names p) (names p).length)).ok = true → (atW (Ts.map (·.L)) (List.range Ts.length) (ways (names p) (names p).length)).node = (seenS (Ts.map (·.L)) p).node) := by
  have h := at_same (Ls := Ts.map (·.L)) (by rw [List.length_map]; exact h4) htr (ways (names p) (names p).length) (List.range (Ts.map (·.L)).length) (rootS (Ts.map (·.L)).length) (by intro e; have h2 := congrArg List.length e; rw [ways_len, List.length_nil] at h2; have := names_some hz; omega) (List.Sublist.refl _) (root_parts (by rw [List.length_map]; exact h4))
  rw [List.length_map] at h
  unfold seenS
  rw [namesR_yes hp, List.length_map]
  exact ⟨h.1, h.2.1⟩
end Pl
end Go.Proofs.YtepmojmelcngeaaGreatDoor
