/- What a map of nodes holds behind a put. -/
import Derived.Test.YtepmojmelcngeaaGreatDoorG05
namespace Go.Proofs.YtepmojmelcngeaaGreatDoor
open Go.RowKit
namespace Pl
theorem apart_put {L : List Nd} {n : Nd} (hC : L.Pairwise (fun a b => a.path ≠ b.path)) : (L.filter (fun m => !decide (m.path = n.path)) ++ [n]).Pairwise (fun a b => a.path ≠ b.path) := by
  rw [List.pairwise_append]
  refine ⟨hC.filter _, by simp, fun a ha b hb => ?_⟩
  simp at hb; subst hb
  have := (List.mem_filter.1 ha).2
  simpa using this
theorem mem_put {L : List Nd} {n m : Nd} (h : m ∈ L.filter (fun m => !decide (m.path = n.path)) ++ [n]) : m ∈ L ∨ m = n := by
  rcases List.mem_append.1 h with h | h
  · exact .inl (List.mem_filter.1 h).1
  · simp at h; exact .inr h
end Pl
end Go.Proofs.YtepmojmelcngeaaGreatDoor
