/- Plain facts of the law FnTree: a tree into which a node was put, or of which one was cut, is right. No program in sight. -/
import Derived.Test.YtibmflhelgedeaaGreatDoorG58
import Derived.Test.YtibmflhelgedeaaGreatDoorG22
import Derived.Test.YtibmflhelgedeaaGreatDoorPlainNames
import Derived.Test.YtibmflhelgedeaaGreatDoorPlainTreeI
namespace Go.Proofs.YtibmflhelgedeaaGreatDoor
namespace Pl
theorem under_up {q p : ByteArray} (hq : pathB q = true) (h : under (parent q) p = true) : under q p = true := by
  rw [under_names] at h ⊢
  rw [parent_right hq, parent_names hq] at h
  refine (underR_iff _ _).2 (fun j t hj => ?_)
  have := (underR_iff _ _).1 h j t hj
  rw [List.getElem?_dropLast] at this
  split at this
  · exact this
  · cases this
theorem under_refl (p : ByteArray) : under p p = true := by
  rw [under_names]; exact (underR_iff _ _).2 (fun j t h => h)
/-- A tree without a path and all under it is right. -/
theorem off_right {L : List Nd} (p : ByteArray) (h : treeB L = true) : treeB (offL p L) = true := by
  rw [tree_iff] at h ⊢
  obtain ⟨h1, h2, h3⟩ := h
  have h4 : (offL p L).Pairwise (fun a b => lessL (names a.path) (names b.path) = true) := h3.filter _
  refine ⟨Nat.le_trans (List.length_filter_le _ _) h1, fun n hn => ?_, h4⟩
  obtain ⟨hn1, hn2⟩ := List.mem_filter.1 hn
  refine ⟨(h2 n hn1).1, ?_⟩
  rw [dirS_iff h4]
  rcases (dirS_iff h3 _).1 (h2 n hn1).2 with h5 | ⟨m, hm, e, hk⟩
  · exact .inl h5
  · refine .inr ⟨m, List.mem_filter.2 ⟨hm, ?_⟩, e, hk⟩
    have hq := (node_right (h2 n hn1).1).1
    simp only [Bool.not_eq_true'] at hn2 ⊢
    cases hu : under m.path p
    · rfl
    · rw [e] at hu
      have := under_up hq hu
      rw [this] at hn2; cases hn2
theorem put_mem_iff {L : List Nd} {n : Nd} (h : treeB L = true) (hn : nodeB n = true) (m : Nd) : m ∈ putL L n ↔ (m ∈ L ∧ m.path ≠ n.path) ∨ m = n := by
  have hL := fun m hm => (node_right (((tree_iff L).1 h).2.1 m hm).1).1
  rw [(put_ok hL (node_right hn).1 (tree_rise' h)).2.mem_iff]
  simp [List.mem_append, List.mem_filter]
theorem put_less {L : List Nd} {n : Nd} (h : treeB L = true) (hn : nodeB n = true) : (putL L n).Pairwise (fun a b => lessL (names a.path) (names b.path) = true) := by
  have hL := fun m hm => (node_right (((tree_iff L).1 h).2.1 m hm).1).1
  refine less_of (fun m hm => ?_) (put_ok hL (node_right hn).1 (tree_rise' h)).1
  rcases (put_mem_iff h hn m).1 hm with h1 | rfl
  · exact hL m h1.1
  · exact (node_right hn).1
/-- A tree into which a node was put is right. -/
theorem put_right {L : List Nd} {n : Nd} (h : treeB L = true) (hn : nodeB n = true) (hc : addC L n = 0) : treeB (putL L n) = true := by
  have hm := put_mem_iff h hn
  have hl := put_less h hn
  obtain ⟨h1, h2, h3⟩ := (tree_iff L).1 h
  have hL := fun m hm => (node_right ((h2 m hm)).1).1
  have hn1 := node_right hn
  unfold addC at hc
  split at hc
  · cases hc
  rename_i c1
  split at hc
  · cases hc
  rename_i c2
  split at hc
  · cases hc
  rename_i c3
  split at hc
  · cases hc
  rename_i c4
  rw [tree_iff]
  refine ⟨?_, fun m hm1 => ?_, hl⟩
  · cases hf : L.find? (fun m => decide (m.path = n.path)) with
    | none =>
      have : ¬ 40 ≤ L.length := fun h5 => c4 ⟨hf, h5⟩
      have := put_len L n
      omega
    | some x =>
      have hx1 := List.mem_of_find?_eq_some hf
      have hx2 := find_path hf
      have e := (put_ok hL hn1.1 (tree_rise' h)).2.length_eq
      rw [List.length_append, List.length_singleton] at e
      have hlt : (L.filter (fun m => !decide (m.path = n.path))).length < L.length := List.length_filter_lt_length_iff_exists.2 ⟨x, hx1, by simp [hx2]⟩
      omega
  · rw [dirS_iff hl]
    rcases (hm m).1 hm1 with ⟨m1, m2⟩ | rfl
    · refine ⟨(h2 m m1).1, ?_⟩
      rcases (dirS_iff h3 _).1 (h2 m m1).2 with h5 | ⟨d, hd, e, hk⟩
      · exact .inl h5
      · right
        by_cases he : d.path = n.path
        · refine ⟨n, (hm n).2 (.inr rfl), by rw [← he, e], ?_⟩
          have hu : overL L n.path = true := by
            obtain ⟨k, hk2⟩ := List.mem_iff_getElem?.1 m1
            exact over_yes hk2 m2 (by rw [← he, e]; exact under_up (hL m m1) (under_refl _))
          cases hk3 : decide (n.kind = 1)
          · exact absurd ⟨of_decide_eq_false hk3, hu⟩ c3
          · exact of_decide_eq_true hk3
        · exact ⟨d, (hm d).2 (.inl ⟨hd, he⟩), e, hk⟩
    · refine ⟨hn, ?_⟩
      have hd : dirS L (parent m.path) = true := by
        cases h6 : dirS L (parent m.path)
        · exact absurd h6 c2
        · rfl
      rcases (dirS_iff h3 _).1 hd with h5 | ⟨d, hd1, e, hk⟩
      · exact .inl h5
      · refine .inr ⟨d, (hm d).2 (.inl ⟨hd1, fun e2 => ?_⟩), e, hk⟩
        have h7 := congrArg names (e.symm.trans e2)
        rw [parent_right hn1.1, parent_names hn1.1] at h7
        have h8 := congrArg List.length h7
        rw [List.length_dropLast] at h8
        have := List.length_pos_iff.2 (names_ne hn1.2)
        omega
/-- What was put is there. -/
theorem put_get {L : List Nd} {n : Nd} (h : treeB L = true) (hn : nodeB n = true) (hc : addC L n = 0) : getV (putL L n) n.path = .agg #[.string n.path, .int .i64 n.kind, .string n.data, .int .i64 n.time, .int .i64 n.mark, .int .i64 0] := by
  have hn1 := node_right hn
  have hle := pathB_le hn1.1
  have hin : n ∈ putL L n := (put_mem_iff h hn n).2 (.inr rfl)
  refine get_some (by omega) ?_ ?_
  · rintro (h5 | h5 | h5)
    · rw [put_right h hn hc] at h5; cases h5
    · exact hn1.2 h5
    · rw [hn1.1] at h5; cases h5
  · cases hf : (putL L n).find? (fun m => decide (m.path = n.path)) with
    | none =>
      rw [List.find?_eq_none] at hf
      exact absurd (decide_eq_true rfl) (hf n hin)
    | some m =>
      rw [one_path (put_less h hn) (List.mem_of_find?_eq_some hf) hin (find_path hf)]
/-- All that is not under it is as ahead. -/
theorem put_off (L : List Nd) (n : Nd) : offL n.path (putL L n) = offL n.path L := by
  have hsp := List.takeWhile_append_dropWhile (p := aheadP n) (l := L)
  conv => rhs; rw [← hsp]
  unfold offL putL
  rw [List.filter_append, List.filter_append, List.filter_cons, if_neg (by rw [under_refl]; simp)]
  congr 1
  cases L.dropWhile (aheadP n) with
  | nil => rfl
  | cons x R =>
    rw [restP]
    split
    · rename_i e
      rw [List.filter_cons, if_neg (by rw [e, under_refl]; simp)]
    · rfl
/-- What was cut is no more there. -/
theorem cut_get {L : List Nd} {p : ByteArray} {n : Nd} (h : getV L p = .agg #[.string n.path, .int .i64 n.kind, .string n.data, .int .i64 n.time, .int .i64 n.mark, .int .i64 0]) : getV (offL p L) p = .agg #[.string ⟨#[]⟩, .int .i64 0, .string ⟨#[]⟩, .int .i64 0, .int .i64 0, .int .i64 6] := by
  obtain ⟨h1, h2, h3⟩ := get_ok h
  refine get_none h3 ?_ ?_
  · rintro (h5 | h5 | h5)
    · rw [off_right p h1] at h5; cases h5
    · have h6 : getV L p = _ := get_form h3 (.inr (.inl h5))
      rw [h] at h6; simp at h6
    · rw [h2] at h5; cases h5
  · rw [List.find?_eq_none]
    intro m hm e
    obtain ⟨_, hu⟩ := List.mem_filter.1 hm
    rw [of_decide_eq_true e, under_refl] at hu
    cases hu
end Pl
end Go.Proofs.YtibmflhelgedeaaGreatDoor
