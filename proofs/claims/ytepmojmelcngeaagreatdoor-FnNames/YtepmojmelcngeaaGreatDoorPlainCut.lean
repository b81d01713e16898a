/- What TreeCut answers, plainly. -/
import Derived.Test.YtepmojmelcngeaaGreatDoorG05
import Derived.Test.YtepmojmelcngeaaGreatDoorG22
import Derived.Test.YtepmojmelcngeaaGreatDoorG28
namespace Go.Proofs.YtepmojmelcngeaaGreatDoor
open Go.RowKit
namespace Pl
theorem get_ok {L : List Nd} {p : ByteArray} {a b : ByteArray} {k t m : Int} (h : getV L p = .agg #[.string a, .int .i64 k, .string b, .int .i64 t, .int .i64 m, .int .i64 0]) : treeB L = true ∧ pathB p = true ∧ ¬ 8000 < p.size := by
  by_cases h1 : 8000 < p.size
  · rw [get_long h1] at h; simp at h
  by_cases h2 : treeB L = false ∨ p.size = 0 ∨ pathB p = false
  · rw [get_form h1 h2] at h; simp at h
  · refine ⟨?_, ?_, h1⟩
    · cases h3 : treeB L
      · exact absurd (.inl h3) h2
      · rfl
    · cases h3 : pathB p
      · exact absurd (.inr (.inr h3)) h2
      · rfl
theorem tree_rise {L : List Nd} (h : treeB L = true) : L.Pairwise (fun a b => ltP a.path b.path = true) ∧ (∀ n ∈ L, pathB n.path = true ∧ n.data.size ≤ 1048576) ∧ L.length ≤ 40 := by
  have h0 := h
  simp only [treeB, Bool.and_eq_true, decide_eq_true_eq] at h
  have hn := goI_all L _ _ h.2
  have hr := (goI_rise L [] ⟨#[]⟩ h.2 (right_root rfl).1).1
  refine ⟨List.Pairwise.imp_of_mem (fun {a b} ha hb hab => ?_) hr, fun n hm => ⟨(node_right (hn n hm)).1, by have := (node_bounds (hn n hm)).1; omega⟩, h.1⟩
  rw [ltP_right (node_right (hn a ha)).1 (node_right (hn b hb)).1]; exact hab
theorem off_below {L : List Nd} {p : ByteArray} (hL : ∀ n ∈ L, pathB n.path = true) (hp : pathB p = true) : L.filter (fun n => !belowP n.path p && !decide (n.path = p)) = offL p L := by
  apply List.filter_congr
  intro n hn
  have hn' := hL n hn
  by_cases e : n.path = p
  · have : under n.path p = true := by rw [e]; exact under_same p
    rw [this, e]; simp
  · have hb : belowP n.path p = under n.path p := by
      rw [belowP, hn', hp, namesR_yes hn', namesR_yes hp, under_names]
      simp [e]
    rw [hb]; simp [e]
theorem off_len (p : ByteArray) (L : List Nd) : (offL p L).length ≤ L.length := List.length_filter_le _ _
def cutO (p : ByteArray) (L : List Nd) (c : Int) : List Nd := if c = 0 then offL p L else []
theorem cutO_len (p : ByteArray) (L : List Nd) (c : Int) : (cutO p L c).length ≤ L.length := by
  unfold cutO
  split
  · exact off_len p L
  · exact Nat.zero_le _
end Pl
end Go.Proofs.YtepmojmelcngeaaGreatDoor
