/- What TreeGet answers, plainly. -/
import Derived.Test.YtkfpfckmjgjanaaDoorWTreeR
namespace Go.Proofs.YtkfpfckmjgjanaaDoor
open Go.RowKit
namespace Pl
/-- What TreeGet answers. -/
def getV (L : List Nd) (p : ByteArray) : Value :=
  if 8000 < p.size then .agg #[.string ⟨#[]⟩, .int .i64 0, .string ⟨#[]⟩, .int .i64 0, .int .i64 0, .int .i64 2] else if treeB L = false ∨ p.size = 0 ∨ pathB p = false then .agg #[.string ⟨#[]⟩, .int .i64 0, .string ⟨#[]⟩, .int .i64 0, .int .i64 0, .int .i64 1] else
    match L.find? (fun m => decide (m.path = p)) with | none => .agg #[.string ⟨#[]⟩, .int .i64 0, .string ⟨#[]⟩, .int .i64 0, .int .i64 0, .int .i64 6] | some m => .agg #[.string m.path, .int .i64 m.kind, .string m.data, .int .i64 m.time, .int .i64 m.mark, .int .i64 0]
theorem get_long {L : List Nd} {p : ByteArray} (h : 8000 < p.size) : getV L p = .agg #[.string ⟨#[]⟩, .int .i64 0, .string ⟨#[]⟩, .int .i64 0, .int .i64 0, .int .i64 2] := by rw [getV, if_pos h]
theorem get_form {L : List Nd} {p : ByteArray} (h : ¬ 8000 < p.size) (h2 : treeB L = false ∨ p.size = 0 ∨ pathB p = false) : getV L p = .agg #[.string ⟨#[]⟩, .int .i64 0, .string ⟨#[]⟩, .int .i64 0, .int .i64 0, .int .i64 1] := by rw [getV, if_neg h, if_pos h2]
theorem get_none {L : List Nd} {p : ByteArray} (h : ¬ 8000 < p.size) (h2 : ¬ (treeB L = false ∨ p.size = 0 ∨ pathB p = false)) (hf : L.find? (fun m => decide (m.path = p)) = none) : getV L p = .agg #[.string ⟨#[]⟩, .int .i64 0, .string ⟨#[]⟩, .int .i64 0, .int .i64 0, .int .i64 6] := by rw [getV, if_neg h, if_neg h2, hf]
theorem get_some {L : List Nd} {p : ByteArray} {m : Nd} (h : ¬ 8000 < p.size) (h2 : ¬ (treeB L = false ∨ p.size = 0 ∨ pathB p = false)) (hf : L.find? (fun m => decide (m.path = p)) = some m) : getV L p = .agg #[.string m.path, .int .i64 m.kind, .string m.data, .int .i64 m.time, .int .i64 m.mark, .int .i64 0] := by rw [getV, if_neg h, if_neg h2, hf]
theorem get_shape (L : List Nd) (p : ByteArray) : ∃ (n : Nd) (c : Int), getV L p = .agg #[.string n.path, .int .i64 n.kind, .string n.data, .int .i64 n.time, .int .i64 n.mark, .int .i64 c] := by
  unfold getV
  split
  · exact ⟨⟨⟨#[]⟩, 0, ⟨#[]⟩, 0, 0⟩, _, rfl⟩
  split
  · exact ⟨⟨⟨#[]⟩, 0, ⟨#[]⟩, 0, 0⟩, _, rfl⟩
  split
  · exact ⟨⟨⟨#[]⟩, 0, ⟨#[]⟩, 0, 0⟩, _, rfl⟩
  · exact ⟨_, _, rfl⟩
theorem tree_apart {L : List Nd} (h : treeB L = true) : L.Pairwise (fun a b => a.path ≠ b.path) := by
  have h2 : goI [] ⟨#[]⟩ L = true := by unfold treeB at h; simp at h; exact h.2
  exact (goI_rise L [] ⟨#[]⟩ h2 (right_root rfl).1).1.imp (fun {a b} hab e => by rw [e, less_irr] at hab; cases hab)
end Pl
end Go.Proofs.YtkfpfckmjgjanaaDoor
