/- Nodes, and whether they are right. No program in sight but its values. -/
import Derived.Test.YtmamahpeiajigaaGreatDoorPlainR
namespace Go.Proofs.YtmamahpeiajigaaGreatDoor
namespace Pl
structure Nd where
  path : ByteArray
  kind : Int
  data : ByteArray
  time : Int
  mark : Int
def Nd.cells (n : Nd) : List Value := [.string n.path, .int .i64 n.kind, .string n.data, .int .i64 n.time, .int .i64 n.mark]
def Nd.val (n : Nd) : Value := .agg #[.string n.path, .int .i64 n.kind, .string n.data, .int .i64 n.time, .int .i64 n.mark]
def kindB (n : Nd) : Bool :=
  if n.kind = 0 then decide (n.data.size = 0) && decide (n.time = 0) && decide (1 ≤ n.mark)
  else if n.kind = 1 then decide (n.data.size = 0)
  else if n.kind = 2 then decide (n.mark = 0) else false
def nodeB (n : Nd) : Bool := decide (n.path.size ≠ 0) && pathB n.path && decide (n.data.size ≤ 60) && decide (0 ≤ n.time ∧ n.time ≤ 1000000) && decide (0 ≤ n.mark ∧ n.mark ≤ 8) && kindB n
theorem node_root {n : Nd} (h : n.path.size = 0) : nodeB n = false := by simp [nodeB, h]
theorem node_path {n : Nd} (h : pathB n.path = false) : nodeB n = false := by simp [nodeB, h]
theorem node_data {n : Nd} (h : 60 < n.data.size) : nodeB n = false := by
  have : decide (n.data.size ≤ 60) = false := by simp; omega
  simp [nodeB, this]
theorem node_time {n : Nd} (h : ¬ (0 ≤ n.time ∧ n.time ≤ 1000000)) : nodeB n = false := by
  have : decide (0 ≤ n.time ∧ n.time ≤ 1000000) = false := by simpa using h
  unfold nodeB; rw [this]; simp
theorem node_mark {n : Nd} (h : ¬ (0 ≤ n.mark ∧ n.mark ≤ 8)) : nodeB n = false := by
  have : decide (0 ≤ n.mark ∧ n.mark ≤ 8) = false := by simpa using h
  unfold nodeB; rw [this]; simp
theorem node_kind {n : Nd} (h0 : n.path.size ≠ 0) (h1 : pathB n.path = true) (h2 : n.data.size ≤ 60) (h3 : 0 ≤ n.time ∧ n.time ≤ 1000000) (h4 : 0 ≤ n.mark ∧ n.mark ≤ 8) : nodeB n = kindB n := by
  have e3 : decide (0 ≤ n.time ∧ n.time ≤ 1000000) = true := by simpa using h3
  have e4 : decide (0 ≤ n.mark ∧ n.mark ≤ 8) = true := by simpa using h4
  unfold nodeB; rw [e3, e4]; simp [h0, h1, h2]
end Pl
end Go.Proofs.YtmamahpeiajigaaGreatDoor
