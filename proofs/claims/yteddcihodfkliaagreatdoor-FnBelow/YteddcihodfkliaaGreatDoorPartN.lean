/- Several texts of one claim in one file: PlainOff, PlainGetV, PlainCut. -/
import Derived.Test.YteddcihodfkliaaGreatDoorPartA
import Derived.Test.YteddcihodfkliaaGreatDoorPartS
import Derived.Test.YteddcihodfkliaaGreatDoorPartB
/- A tree without a path, and all under it. -/
namespace Go.Proofs.YteddcihodfkliaaGreatDoor
open Go.RowKit
namespace Pl
/-- A tree without a path, and all under it. -/
def offL (p : ByteArray) (L : List Nd) : List Nd := L.filter (fun n => !under n.path p)
theorem offN_in {L : List Nd} {p : ByteArray} {k : Nat} {n : Nd} (hn : L[k]? = some n) (h : under n.path p = false) : offL p (L.take (k + 1)) = offL p (L.take k) ++ [n] := by
  have h1 := List.getElem?_eq_some_iff.1 hn
  rw [List.take_succ_eq_append_getElem h1.1, h1.2]
  simp [offL, h]
theorem offN_out {L : List Nd} {p : ByteArray} {k : Nat} {n : Nd} (hn : L[k]? = some n) (h : under n.path p = true) : offL p (L.take (k + 1)) = offL p (L.take k) := by
  have h1 := List.getElem?_eq_some_iff.1 hn
  rw [List.take_succ_eq_append_getElem h1.1, h1.2]
  simp [offL, h]
theorem offN_len (L : List Nd) (p : ByteArray) (k : Nat) : (offL p (L.take k)).length ≤ k := by
  have h1 : (offL p (L.take k)).length ≤ (L.take k).length := by simpa [offL] using List.length_filter_le _ (L.take k)
  have h2 : (L.take k).length ≤ k := by simp; omega
  omega
end Pl
end Go.Proofs.YteddcihodfkliaaGreatDoor

/- What TreeGet answers, plainly. -/
namespace Go.Proofs.YteddcihodfkliaaGreatDoor
open Go.RowKit
namespace Pl
/-- What TreeGet answers. -/
def getV (L : List Nd) (p : ByteArray) : Value :=
  if 8000 < p.size then .agg #[.string ⟨#[]⟩, .int .i64 0, .string ⟨#[]⟩, .int .i64 0, .int .i64 0, .int .i64 2] else if treeB L = false ∨ p.size = 0 ∨ pathB p = false then .agg #[.string ⟨#[]⟩, .int .i64 0, .string ⟨#[]⟩, .int .i64 0, .int .i64 0, .int .i64 1] else
    match L.find? (fun m => decide (m.path = p)) with | none => .agg #[.string ⟨#[]⟩, .int .i64 0, .string ⟨#[]⟩, .int .i64 0, .int .i64 0, .int .i64 6] | some m => .agg #[.string m.path, .int .i64 m.kind, .string m.data, .int .i64 m.time, .int .i64 m.mark, .int .i64 0]
theorem get_long {L : List Nd} {p : ByteArray} (h : 8000 < p.size) : getV L p = .agg #[.string ⟨#[]⟩, .int .i64 0, .string ⟨#[]⟩, .int .i64 0, .int .i64 0, .int .i64 2] := by rw [getV, if_pos h]
theorem get_form {L : List Nd} {p : ByteArray} (h : ¬ 8000 < p.size) (h2 : treeB L = false ∨ p.size = 0 ∨ pathB p = false) : getV L p = .agg #[.string ⟨#[]⟩, .int .i64 0, .string ⟨#[]⟩, .int .i64 0, .int .i64 0, .int .i64 1] := by rw [getV, if_neg h, if_pos h2]
theorem get_none {L : List Nd} {p : ByteArray} (h : ¬ 8000 < p.size) (h2 : ¬ (treeB L = false ∨ p.size = 0 ∨ pathB p = false)) (hf : L.find? (fun m => decide (m.path = p)) = none) : getV L p = .agg #[.string ⟨#[]⟩, .int .i64 0, .string ⟨#[]⟩, .int .i64 0, .int .i64 0, .int .i64 6] := by rw [getV, if_neg h, if_neg h2, hf]
theorem get_some {L : List Nd} {p : ByteArray} {m : Nd} (h : ¬ 8000 < p.size) (h2 : ¬ (treeB L = false ∨ p.size = 0 ∨ pathB p = false)) (hf : L.find? (fun m => decide (m.path = p)) = some m) : getV L p = .agg #[.string m.path, .int .i64 m.kind, .string m.data, .int .i64 m.time, .int .i64 m.mark, .int .i64 0] := by rw [getV, if_neg h, if_neg h2, hf]
theorem get_shape (L : List Nd) (p : ByteArray) : ∃ (n : Nd) (c : Int), getV L p = .agg #[.string n.path, .int .i64 n.kind, .string n.data, .int .i64 n.time, .int .i64 n.mark, .int .i64 c] := by
  unfold getV
  split
  · exact ⟨⟨⟨#[]⟩, 0, ⟨#[]⟩, 0, 0⟩, _, rfl⟩
  split
  · exact ⟨⟨⟨#[]⟩, 0, ⟨#[]⟩, 0, 0⟩, _, rfl⟩
  split
  · exact ⟨⟨⟨#[]⟩, 0, ⟨#[]⟩, 0, 0⟩, _, rfl⟩
  · exact ⟨_, _, rfl⟩
theorem tree_apart {L : List Nd} (h : treeB L = true) : L.Pairwise (fun a b => a.path ≠ b.path) := by
  have h2 : goI [] ⟨#[]⟩ L = true := by unfold treeB at h; simp at h; exact h.2
  exact (goI_rise L [] ⟨#[]⟩ h2 (right_root rfl).1).1.imp (fun {a b} hab e => by rw [e, less_irr] at hab; cases hab)
end Pl
end Go.Proofs.YteddcihodfkliaaGreatDoor

/- What TreeCut answers, plainly. -/
namespace Go.Proofs.YteddcihodfkliaaGreatDoor
open Go.RowKit
namespace Pl
theorem get_ok {L : List Nd} {p : ByteArray} {a b : ByteArray} {k t m : Int} (h : getV L p = .agg #[.string a, .int .i64 k, .string b, .int .i64 t, .int .i64 m, .int .i64 0]) : treeB L = true ∧ pathB p = true ∧ ¬ 8000 < p.size := by
  by_cases h1 : 8000 < p.size
  · rw [get_long h1] at h; simp at h
  by_cases h2 : treeB L = false ∨ p.size = 0 ∨ pathB p = false
  · rw [get_form h1 h2] at h; simp at h
  · refine ⟨?_, ?_, h1⟩
    · cases h3 : treeB L
      · exact absurd (.inl h3) h2
      · rfl
    · cases h3 : pathB p
      · exact absurd (.inr (.inr h3)) h2
      · rfl
theorem tree_rise {L : List Nd} (h : treeB L = true) : L.Pairwise (fun a b => ltP a.path b.path = true) ∧ (∀ n ∈ L, pathB n.path = true ∧ n.data.size ≤ 1048576) ∧ L.length ≤ 40 := by
  have h0 := h
  simp only [treeB, Bool.and_eq_true, decide_eq_true_eq] at h
  have hn := goI_all L _ _ h.2
  have hr := (goI_rise L [] ⟨#[]⟩ h.2 (right_root rfl).1).1
  refine ⟨List.Pairwise.imp_of_mem (fun {a b} ha hb hab => ?_) hr, fun n hm => ⟨(node_right (hn n hm)).1, by have := (node_bounds (hn n hm)).1; omega⟩, h.1⟩
  rw [ltP_right (node_right (hn a ha)).1 (node_right (hn b hb)).1]; exact hab
theorem off_below {L : List Nd} {p : ByteArray} (hL : ∀ n ∈ L, pathB n.path = true) (hp : pathB p = true) : L.filter (fun n => !belowP n.path p && !decide (n.path = p)) = offL p L := by
  apply List.filter_congr
  intro n hn
  have hn' := hL n hn
  by_cases e : n.path = p
  · have : under n.path p = true := by rw [e]; exact under_same p
    rw [this, e]; simp
  · have hb : belowP n.path p = under n.path p := by
      rw [belowP, hn', hp, namesR_yes hn', namesR_yes hp, under_names]
      simp [e]
    rw [hb]; simp [e]
theorem off_len (p : ByteArray) (L : List Nd) : (offL p L).length ≤ L.length := List.length_filter_le _ _
def cutO (p : ByteArray) (L : List Nd) (c : Int) : List Nd := if c = 0 then offL p L else []
theorem cutO_len (p : ByteArray) (L : List Nd) (c : Int) : (cutO p L c).length ≤ L.length := by
  unfold cutO
  split
  · exact off_len p L
  · exact Nat.zero_le _
end Pl
end Go.Proofs.YteddcihodfkliaaGreatDoor

