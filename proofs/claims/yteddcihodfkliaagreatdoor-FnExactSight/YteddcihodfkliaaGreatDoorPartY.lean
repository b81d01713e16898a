/- Several texts of one claim in one file: PlainTreeI, PlainOverT. -/
import Derived.Test.YteddcihodfkliaaGreatDoorPartA
import Derived.Test.YteddcihodfkliaaGreatDoorPlainNames
import Derived.Test.YteddcihodfkliaaGreatDoorPlainGetV
import Derived.Test.YteddcihodfkliaaGreatDoorPartJ
/- What a right tree is. -/
namespace Go.Proofs.YteddcihodfkliaaGreatDoor
namespace Pl
theorem find_path {L : List Nd} {p : ByteArray} {m : Nd} (h : L.find? (fun m => decide (m.path = p)) = some m) : m.path = p := by
  have := List.find?_some h
  simpa using this
theorem goS_iff (L : List Nd) : ∀ (r : List Nd) (prev : Option ByteArray), goS L prev r = true ↔ (∀ n ∈ r, nodeB n = true ∧ dirS L (parent n.path) = true) ∧ r.Pairwise (fun a b => lessL (names a.path) (names b.path) = true) ∧ ∀ n ∈ r, prevB prev n.path = true := by
  intro r
  induction r with
  | nil => intro prev; simp [goS]
  | cons m r ih =>
    intro prev
    simp only [goS, Bool.and_eq_true]
    rw [ih]
    constructor
    · rintro ⟨⟨⟨h1, h2⟩, h3⟩, h4, h5, h6⟩
      refine ⟨fun n hn => ?_, List.Pairwise.cons (fun n hn => h6 n hn) h5, fun n hn => ?_⟩
      · rcases List.mem_cons.1 hn with rfl | hn
        · exact ⟨h1, h3⟩
        · exact h4 n hn
      · rcases List.mem_cons.1 hn with rfl | hn
        · exact h2
        · cases prev with
          | none => rfl
          | some q => exact less_trans _ _ _ h2 (h6 n hn)
    · rintro ⟨h1, h2, h3⟩
      obtain ⟨h4, h5⟩ := List.pairwise_cons.1 h2
      exact ⟨⟨⟨(h1 m (List.mem_cons_self ..)).1, h3 m (List.mem_cons_self ..)⟩, (h1 m (List.mem_cons_self ..)).2⟩, fun n hn => h1 n (List.mem_cons_of_mem _ hn), h5, fun n hn => h4 n hn⟩
theorem tree_iff (L : List Nd) : treeB L = true ↔ L.length ≤ 40 ∧ (∀ n ∈ L, nodeB n = true ∧ dirS L (parent n.path) = true) ∧ L.Pairwise (fun a b => lessL (names a.path) (names b.path) = true) := by
  rw [treeB, ← tree_same, Bool.and_eq_true, decide_eq_true_eq, goS_iff]
  constructor
  · rintro ⟨h1, h2, h3, -⟩; exact ⟨h1, h2, h3⟩
  · rintro ⟨h1, h2, h3⟩; exact ⟨h1, h2, h3, fun n hn => rfl⟩
theorem dirS_iff {L : List Nd} (h : L.Pairwise (fun a b => lessL (names a.path) (names b.path) = true)) (p : ByteArray) : dirS L p = true ↔ p.size = 0 ∨ ∃ m ∈ L, m.path = p ∧ m.kind = 1 := by
  simp only [dirS, Bool.or_eq_true, decide_eq_true_eq]
  refine or_congr Iff.rfl ?_
  cases hf : L.find? (fun m => decide (m.path = p)) with
  | none =>
    rw [List.find?_eq_none] at hf
    constructor
    · intro h; cases h
    · rintro ⟨m, hm, e, _⟩; exact absurd (decide_eq_true e) (hf m hm)
  | some m' =>
    have h1 := List.mem_of_find?_eq_some hf
    have h2 := find_path hf
    simp only [decide_eq_true_eq]
    constructor
    · intro h3; exact ⟨m', h1, h2, h3⟩
    · rintro ⟨m, hm, e, hk⟩
      rw [one_path h h1 hm (h2.trans e.symm)]; exact hk
theorem less_of {L : List Nd} (hL : ∀ m ∈ L, pathB m.path = true) (h : L.Pairwise (fun a b => ltP a.path b.path = true)) : L.Pairwise (fun a b => lessL (names a.path) (names b.path) = true) :=
  List.Pairwise.imp_of_mem (fun {a b} ha hb hab => by rw [ltP_right (hL a ha) (hL b hb)] at hab; exact hab) h
end Pl
end Go.Proofs.YteddcihodfkliaaGreatDoor

/- What is told of right layers in all is a right tree, if there is room for it. -/
namespace Go.Proofs.YteddcihodfkliaaGreatDoor
namespace Pl
theorem mark_node {n : Nd} {m : Int} (h : nodeB n = true) (hk : n.kind = 1) (hm : 0 ≤ m ∧ m ≤ 8) : nodeB ⟨n.path, n.kind, n.data, n.time, m⟩ = true := by
  unfold nodeB at h ⊢
  simp only [Bool.and_eq_true, decide_eq_true_eq] at h ⊢
  refine ⟨⟨h.1.1, hm⟩, ?_⟩
  have h2 := h.2
  unfold kindB at h2 ⊢
  simp only [hk] at h2 ⊢
  simpa using h2
theorem go_node : ∀ (ns : List (Option Nd)) (k : Nat) (s : Sg), (∀ n, some n ∈ ns → nodeB n = true) → (s.told = true → nodeB s.node = true ∧ s.node.kind = 1) → (goD k s ns).told = true → nodeB (goD k s ns).node = true := by
  intro ns
  induction ns with
  | nil => intro k s _ hs h; exact (hs h).1
  | cons x ns ih =>
    intro k s hn hs h
    have hn' : ∀ n, some n ∈ ns → nodeB n = true := fun n hm => hn n (List.mem_cons_of_mem _ hm)
    cases x with
    | none => exact ih _ _ hn' hs h
    | some n =>
      have h1 := hn n List.mem_cons_self
      have hb := node_bounds h1
      have ht : nodeB (takeS s k n).node = true ∧ (n.kind = 1 → (takeS s k n).node.kind = 1) := by
        unfold takeS markMax
        cases hst : s.told
        · simp only [Bool.false_eq_true, if_false]
          rw [Int.max_self]
          exact ⟨h1, fun h => h⟩
        · obtain ⟨h2, h3⟩ := hs hst
          have hb2 := node_bounds h2
          simp only [if_true]
          exact ⟨mark_node h2 h3 (by omega), fun _ => h3⟩
      rw [goD] at h ⊢
      split at h
      · rw [if_pos (by assumption)]; exact ht.1
      · rename_i hst
        rw [if_neg hst]
        refine ih _ _ hn' (fun _ => ⟨ht.1, ht.2 ?_⟩) h
        simp [stopB] at hst
        exact hst.1
theorem up_node {s : Sg} (h : s.told = true → nodeB s.node = true) (ht : (upS s).told = true) : nodeB (upS s).node = true := by
  unfold upS at ht ⊢
  split at ht
  · cases ht
  · rename_i hz
    rw [if_neg hz]
    have h1 := h ht
    have hb := node_bounds h1
    unfold nodeB at h1 ⊢
    simp only [Bool.and_eq_true, decide_eq_true_eq] at h1 ⊢
    refine ⟨⟨h1.1.1, by omega⟩, ?_⟩
    have h2 := h1.2
    unfold kindB at h2 ⊢
    simp only at hz h2 ⊢
    by_cases k0 : s.node.kind = 0
    · simp only [k0, if_true, Bool.and_eq_true, decide_eq_true_eq, true_and] at hz h2 ⊢
      exact ⟨h2.1, by omega⟩
    · by_cases k1 : s.node.kind = 1
      · simp only [if_neg k0, if_pos k1] at h2 ⊢
        exact h2
      · simp only [if_neg k0, if_neg k1] at h2 ⊢
        split at h2
        · rename_i k2
          rw [if_pos k2]
          simp only [decide_eq_true_eq] at h2 ⊢
          omega
        · cases h2
theorem dec_node {ns : List (Option Nd)} (hn : ∀ n, some n ∈ ns → nodeB n = true) (ht : (decS ns).told = true) : nodeB (decS ns).node = true :=
  up_node (fun h => go_node ns 0 Sg.zero hn (fun h2 => by cases h2) h) ht
theorem node_told {Ls : List (List Nd)} (htr : ∀ L ∈ Ls, treeB L = true) {p : ByteArray} (hp : pathB p = true) (hz : ¬ p.size = 0) (ht : (seenS Ls p).told = true) : nodeB (seenS Ls p).node = true := by
  obtain ⟨ab, e⟩ := seen_dec (Ls := Ls) hp hz
  rw [e] at ht ⊢
  refine dec_node (fun n hn => ?_) ht
  obtain ⟨L, hL, hm⟩ := ns_mem _ _ _ _ hn
  have h1 := htr L hL
  simp only [treeB, Bool.and_eq_true, decide_eq_true_eq] at h1
  exact goI_all L _ _ h1.2 n hm
theorem told_of {Ls : List (List Nd)} {p : ByteArray} (hp : pathB p = true) (hz : ¬ p.size = 0) (ht : (seenS Ls p).told = true) : ToldN Ls (seenS Ls p).node := by
  obtain ⟨ab, e⟩ := seen_dec (Ls := Ls) hp hz
  have h1 := ht
  rw [e] at h1
  obtain ⟨n, hn⟩ := dec_some h1
  obtain ⟨k, L, -, h3, h5, h6⟩ := ns_which _ _ _ _ hn
  exact ⟨L, List.mem_of_getElem? h3, n, h5, by rw [h6]; exact ht, by rw [h6]⟩
theorem parent_ok {p : ByteArray} (hp : pathB p = true) : pathB (parent p) = true := by
  have h := names_all hp
  rw [parent_glue]
  exact pathB_glue (fun t ht => h.1 t (List.dropLast_subset _ ht)) (by rw [List.length_dropLast]; omega)
theorem at4_all {Ls : List (List Nd)} (h4 : Ls.length ≤ 4) (htr : ∀ L ∈ Ls, treeB L = true) : ∀ (N : Nat) (p : ByteArray), pathB p = true → (names p).length = N → ∃ ks, At4 Ls ks p ∧ (¬ p.size = 0 → ks ≠ [] → (seenS Ls p).told = true ∧ (seenS Ls p).node.kind = 1) := by
  intro N
  induction N with
  | zero =>
    intro p _ hN
    have h0 : names p = [] := List.eq_nil_of_length_eq_zero hN
    have e : p = ⟨#[]⟩ := path_eq (by rw [h0, (right_root (s := ⟨#[]⟩) rfl).2])
    subst e
    exact ⟨_, at4_root h4, fun h => absurd rfl h⟩
  | succ N ih =>
    intro p hp hN
    have hz : p.size ≠ 0 := fun h => by rw [(right_root h).2] at hN; cases hN
    have hn := kid_names hp hz rfl
    obtain ⟨ks, ha, -⟩ := ih (parent p) (parent_ok hp) (by rw [hn, List.length_append, List.length_singleton] at hN; omega)
    have hc := child_seen h4 htr ha hp hn
    refine ⟨_, at4_down h4 htr ha hp hn, fun _ hk => ?_⟩
    obtain ⟨h1, h2⟩ := hc.dir hk
    exact ⟨by rw [← hc.told]; exact h1, by rw [← hc.node h1]; exact h2⟩
/-- The tree of all is right. -/
theorem all_tree {Ls : List (List Nd)} (h4 : Ls.length ≤ 4) (htr : ∀ L ∈ Ls, treeB L = true) (h40 : (allO Ls).length ≤ 40) : treeB (allO Ls) = true := by
  have ha := all_told h4 htr
  have hr := walk_rise h4 htr 7 _ _ (at4_root h4)
  refine (tree_iff _).2 ⟨h40, fun n hn => ?_, hr⟩
  obtain ⟨h1, h2, h3, h5⟩ := told_path htr ((ha.mem n).1 hn)
  refine ⟨by rw [h2]; exact node_told htr h3 h5 h1, (dirS_iff hr _).2 ?_⟩
  by_cases hq : (parent n.path).size = 0
  · exact .inl hq
  · right
    have hpq := parent_ok h3
    have hnm := kid_names h3 h5 rfl
    obtain ⟨ks, ha4, hd⟩ := at4_all h4 htr _ (parent n.path) hpq rfl
    have hks : ks ≠ [] := fun e => by
      obtain ⟨ps, g1, g2⟩ := seen_rest (Ls := Ls) h3 hpq hnm (by simp)
      rw [g2, walk_none Ls ps _ (by rw [ha4.parts, e]) g1] at h1
      cases h1
    obtain ⟨g1, g2⟩ := hd hq hks
    exact ⟨_, (ha.mem _).2 (told_of hpq hq g1), seen_path hpq hq g1, g2⟩
end Pl
end Go.Proofs.YteddcihodfkliaaGreatDoor

