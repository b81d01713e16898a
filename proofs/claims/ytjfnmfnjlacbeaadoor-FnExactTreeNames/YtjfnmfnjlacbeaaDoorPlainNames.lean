/- The names of a directory. No program in sight. -/
import Derived.Test.YtjfnmfnjlacbeaaDoorPlainBelow
import Derived.Test.YtjfnmfnjlacbeaaDoorPlainPar
namespace Go.Proofs.YtjfnmfnjlacbeaaDoor
namespace Pl
def kidsL (p : ByteArray) (L : List Nd) : List ByteArray := (L.filter (fun n => decide (parent n.path = p))).map (fun n => base n.path)
theorem kids_in {L : List Nd} {p : ByteArray} {k : Nat} {n : Nd} (hn : L[k]? = some n) (h : parent n.path = p) : kidsL p (L.take (k + 1)) = kidsL p (L.take k) ++ [base n.path] := by
  have h1 := List.getElem?_eq_some_iff.1 hn
  rw [List.take_succ_eq_append_getElem h1.1, h1.2]
  simp [kidsL, h]
theorem kids_out {L : List Nd} {p : ByteArray} {k : Nat} {n : Nd} (hn : L[k]? = some n) (h : parent n.path ≠ p) : kidsL p (L.take (k + 1)) = kidsL p (L.take k) := by
  have h1 := List.getElem?_eq_some_iff.1 hn
  rw [List.take_succ_eq_append_getElem h1.1, h1.2]
  simp [kidsL, h]
theorem kids_len (p : ByteArray) (L : List Nd) (k : Nat) : (kidsL p (L.take k)).length ≤ k := by
  have h1 : (kidsL p (L.take k)).length ≤ (L.take k).length := by simpa [kidsL] using List.length_filter_le _ (L.take k)
  have h2 : (L.take k).length ≤ k := by simp; omega
  omega
def kidsO (p : ByteArray) (L : List Nd) : List ByteArray := if treeB L = true ∧ dirS L p = true then kidsL p L else []
theorem kidsO_len (p : ByteArray) (L : List Nd) : (kidsO p L).length ≤ 40 := by
  unfold kidsO
  split
  · rename_i h
    have h2 := h.1
    simp only [treeB, Bool.and_eq_true, decide_eq_true_eq] at h2
    have := kids_len p L L.length
    rw [List.take_length] at this
    omega
  · exact Nat.zero_le _
/-- A child is below. -/
theorem kid_below {q p : ByteArray} (hq : pathB q = true) (h0 : q.size ≠ 0) (hp : pathB p = true) (h : parent q = p) : belowP q p = true := by
  have hn : names p = (names q).dropLast := by rw [← h, parent_right hq, parent_names hq]
  have hne : names q ≠ [] := fun e => h0 (by
    have := glue_names q
    rw [e] at this
    rw [← this]; rfl)
  simp only [belowP, Bool.and_eq_true, Bool.not_eq_true', decide_eq_false_iff_not]
  refine ⟨fun e => ?_, ⟨hq, hp⟩, ?_⟩
  · rw [← e] at hn
    have h1 := congrArg List.length hn
    rw [List.length_dropLast] at h1
    have h2 : 0 < (names q).length := List.length_pos_iff.2 hne
    omega
  · rw [namesR_yes hq, namesR_yes hp, hn]
    refine (underR_iff _ _).2 (fun j t hj => ?_)
    rw [List.getElem?_dropLast] at hj
    split at hj
    · exact hj
    · cases hj
theorem kids_piece {L : List Nd} {p : ByteArray} (hL : ∀ n ∈ L, pathB n.path = true ∧ n.path.size ≠ 0) (hp : pathB p = true) : kidsL p (L.filter (fun n => belowP n.path p)) = kidsL p L := by
  unfold kidsL
  rw [List.filter_filter]
  congr 1
  apply List.filter_congr
  intro n hn
  by_cases h : parent n.path = p
  · rw [kid_below (hL n hn).1 (hL n hn).2 hp h]; simp
  · simp [h]
theorem dir_right {L : List Nd} {p : ByteArray} (hL : ∀ n ∈ L, pathB n.path = true) (h : dirS L p = true) : pathB p = true := by
  simp only [dirS, Bool.or_eq_true, decide_eq_true_eq] at h
  rcases h with h | h
  · exact (right_root h).1
  · split at h
    · rename_i m hm
      have h1 := List.mem_of_find?_eq_some hm
      have h2 := List.find?_some hm
      simp at h2
      rw [← h2]; exact hL m h1
    · cases h
theorem tree_apart' {L : List Nd} (h : treeB L = true) : L.Pairwise (fun a b => a.path ≠ b.path) := by
  have h2 : goI [] ⟨#[]⟩ L = true := by unfold treeB at h; simp at h; exact h.2
  exact (goI_rise L [] ⟨#[]⟩ h2 (right_root rfl).1).1.imp (fun {a b} hab e => by rw [e, less_irr] at hab; cases hab)
theorem tree_rise' {L : List Nd} (h : treeB L = true) : L.Pairwise (fun a b => ltP a.path b.path = true) := by
  simp only [treeB, Bool.and_eq_true, decide_eq_true_eq] at h
  have hn := goI_all L _ _ h.2
  have hr := (goI_rise L [] ⟨#[]⟩ h.2 (right_root rfl).1).1
  exact List.Pairwise.imp_of_mem (fun {a b} ha hb hab => by rw [ltP_right (node_right (hn a ha)).1 (node_right (hn b hb)).1]; exact hab) hr
end Pl
end Go.Proofs.YtjfnmfnjlacbeaaDoor
