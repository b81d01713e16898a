/- Plain facts of the law FnNames. No program in sight. -/
import Derived.Test.YtepmojmelcngeaaGreatDoorWGetP
import Derived.Test.YtepmojmelcngeaaGreatDoorG05
import Derived.Test.YtepmojmelcngeaaGreatDoorG03
import Derived.Test.YtepmojmelcngeaaGreatDoorG43
namespace Go.Proofs.YtepmojmelcngeaaGreatDoor
namespace Pl
theorem less_last (A : List ByteArray) (x y : ByteArray) (h : lessL (A ++ [x]) (A ++ [y]) = true) : Op.bytesLess x.toList y.toList = true := by
  induction A with
  | nil =>
    simp only [List.nil_append, lessL] at h
    split at h
    · cases h
    · exact h
  | cons a A ih =>
    simp only [List.cons_append, lessL, if_true] at h
    exact ih h
theorem kids_rise {L : List Nd} (p : ByteArray) (h : treeB L = true) : (kidsL p L).Pairwise (fun a b => Op.bytesLess a.toList b.toList = true) := by
  have hr : L.Pairwise (fun a b => lessL (names a.path) (names b.path) = true) := by
    simp only [treeB, Bool.and_eq_true, decide_eq_true_eq] at h
    exact (goI_rise L [] ⟨#[]⟩ h.2 (right_root rfl).1).1
  have hn := tree_nodes h
  unfold kidsL
  rw [List.pairwise_map]
  refine List.Pairwise.imp_of_mem (fun {a b} ha hb hab => ?_) (hr.filter _)
  obtain ⟨ha1, ha2⟩ := List.mem_filter.1 ha
  obtain ⟨hb1, hb2⟩ := List.mem_filter.1 hb
  have ha3 := of_decide_eq_true ha2
  have hb3 := of_decide_eq_true hb2
  rw [kid_names (hn a ha1).1 (hn a ha1).2 ha3, kid_names (hn b hb1).1 (hn b hb1).2 hb3] at hab
  exact less_last _ _ _ hab
theorem kidsO_rise (L : List Nd) (p : ByteArray) : (kidsO p L).Pairwise (fun a b => Op.bytesLess a.toList b.toList = true) := by
  unfold kidsO
  split
  · rename_i h; exact kids_rise p h.1
  · exact List.Pairwise.nil
theorem kidsO_up {L : List Nd} {p : ByteArray} {k : Nat} {x y : ByteArray} (hx : (kidsO p L)[k]? = some x) (hy : (kidsO p L)[k + 1]? = some y) : Op.bytesLess x.toList y.toList = true := by
  obtain ⟨h1, e1⟩ := List.getElem?_eq_some_iff.1 hx
  obtain ⟨h2, e2⟩ := List.getElem?_eq_some_iff.1 hy
  have := List.pairwise_iff_getElem.1 (kidsO_rise L p) k (k + 1) h1 h2 (by omega)
  rw [e1, e2] at this; exact this
/-- Of each of the names there is a node. -/
theorem kidsO_get {L : List Nd} {p x : ByteArray} (hx : x ∈ kidsO p L) : ∃ (q : ByteArray) (n : Nd), joinO p x = (q, 0) ∧ q.size ≤ 200 ∧ x.size ≤ 200 ∧ getV L q = .agg #[.string n.path, .int .i64 n.kind, .string n.data, .int .i64 n.time, .int .i64 n.mark, .int .i64 0] := by
  unfold kidsO at hx
  split at hx
  · rename_i h
    obtain ⟨ht, hd⟩ := h
    have hn := tree_nodes ht
    have hp := dir_right (fun n hn' => (hn n hn').1) hd
    obtain ⟨m, hm, rfl⟩ := List.mem_map.1 hx
    obtain ⟨hm1, hm2⟩ := List.mem_filter.1 hm
    have hm3 := of_decide_eq_true hm2
    have hq := (hn m hm1).1
    have hk := kid_names hq (hn m hm1).2 hm3
    have hall := pathB_all hq
    have hb : nameB (base m.path) = true := hall.1 _ (by rw [hk]; simp)
    have hl : (names p).length + 1 ≤ 6 := by have := hall.2; rw [hk] at this; simpa using this
    have hql := pathB_le hq
    have hpl := pathB_le hp
    have hbl : (base m.path).size ≤ m.path.size := by
      obtain ⟨k, hk2⟩ := List.mem_iff_getElem?.1 (show base m.path ∈ names m.path by rw [hk]; simp)
      exact names_size hk2
    refine ⟨m.path, ?_⟩
    have hj : joinO p (base m.path) = (m.path, 0) := by
      rw [joinO, if_neg (by omega), if_neg (by simp [hp, hb]), namesR_yes hp, if_neg (by omega), ← hk, glue_names]
    obtain ⟨m', hm'⟩ : ∃ m', L.find? (fun n => decide (n.path = m.path)) = some m' := by
      cases hf : L.find? (fun n => decide (n.path = m.path)) with
      | some m' => exact ⟨m', rfl⟩
      | none =>
        rw [List.find?_eq_none] at hf
        exact absurd (decide_eq_true rfl) (hf m hm1)
    exact ⟨m', hj, hql, by omega, get_some (by omega) (by
      rintro (h | h | h)
      · rw [ht] at h; cases h
      · exact (hn m hm1).2 h
      · rw [hq] at h; cases h) hm'⟩
  · simp at hx
theorem kidsO_count (L : List Nd) (p : ByteArray) : (kidsO p L).length = (if treeB L = true then (kidsL p L).length else 0) ∨ (kidsO p L).length = 0 := by
  unfold kidsO
  by_cases h : treeB L = true
  · by_cases h2 : dirS L p = true
    · left; rw [if_pos ⟨h, h2⟩, if_pos h]
    · right; rw [if_neg (fun h3 => h2 h3.2)]; rfl
  · right; rw [if_neg (fun h3 => h h3.1)]; rfl
end Pl
end Go.Proofs.YtepmojmelcngeaaGreatDoor
