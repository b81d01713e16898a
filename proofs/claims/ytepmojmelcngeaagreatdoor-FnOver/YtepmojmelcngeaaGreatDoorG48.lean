/- Several texts of one claim in one file: PlainOverT, PlainSeenGet. -/
import Derived.Test.YtepmojmelcngeaaGreatDoorG42
import Derived.Test.YtepmojmelcngeaaGreatDoorG08
/- What is told of right layers in all is a right tree, if there is room for it. -/
namespace Go.Proofs.YtepmojmelcngeaaGreatDoor
namespace Pl
theorem mark_node {n : Nd} {m : Int} (h : nodeB n = true) (hk : n.kind = 1) (hm : 0 ≤ m ∧ m ≤ 8) : nodeB ⟨n.path, n.kind, n.data, n.time, m⟩ = true := by
  unfold nodeB at h ⊢
  simp only [Bool.and_eq_true, decide_eq_true_eq] at h ⊢
  refine ⟨⟨h.1.1, hm⟩, ?_⟩
  have h2 := h.2
  unfold kindB at h2 ⊢
  simp only [hk] at h2 ⊢
  simpa using h2
theorem go_node : ∀ (ns : List (Option Nd)) (k : Nat) (s : Sg), (∀ n, some n ∈ ns → nodeB n = true) → (s.told = true → nodeB s.node = true ∧ s.node.kind = 1) → (goD k s ns).told = true → nodeB (goD k s ns).node = true := by
  intro ns
  induction ns with
  | nil => intro k s _ hs h; exact (hs h).1
  | cons x ns ih =>
    intro k s hn hs h
    have hn' : ∀ n, some n ∈ ns → nodeB n = true := fun n hm => hn n (List.mem_cons_of_mem _ hm)
    cases x with
    | none => exact ih _ _ hn' hs h
    | some n =>
      have h1 := hn n List.mem_cons_self
      have hb := node_bounds h1
      have ht : nodeB (takeS s k n).node = true ∧ (n.kind = 1 → (takeS s k n).node.kind = 1) := by
        unfold takeS markMax
        cases hst : s.told
        · simp only [Bool.false_eq_true, if_false]
          rw [Int.max_self]
          exact ⟨h1, fun h => h⟩
        · obtain ⟨h2, h3⟩ := hs hst
          have hb2 := node_bounds h2
          simp only [if_true]
          exact ⟨mark_node h2 h3 (by omega), fun _ => h3⟩
      rw [goD] at h ⊢
      split at h
      · rw [if_pos (by assumption)]; exact ht.1
      · rename_i hst
        rw [if_neg hst]
        refine ih _ _ hn' (fun _ => ⟨ht.1, ht.2 ?_⟩) h
        simp [stopB] at hst
        exact hst.1
theorem up_node {s : Sg} (h : s.told = true → nodeB s.node = true) (ht : (upS s).told = true) : nodeB (upS s).node = true := by
  unfold upS at ht ⊢
  split at ht
  · cases ht
  · rename_i hz
    rw [if_neg hz]
    have h1 := h ht
    have hb := node_bounds h1
    unfold nodeB at h1 ⊢
    simp only [Bool.and_eq_true, decide_eq_true_eq] at h1 ⊢
    refine ⟨⟨h1.1.1, by omega⟩, ?_⟩
    have h2 := h1.2
    unfold kindB at h2 ⊢
    simp only at hz h2 ⊢
    by_cases k0 : s.node.kind = 0
    · simp only [k0, if_true, Bool.and_eq_true, decide_eq_true_eq, true_and] at hz h2 ⊢
      exact ⟨h2.1, by omega⟩
    · by_cases k1 : s.node.kind = 1
      · simp only [if_neg k0, if_pos k1] at h2 ⊢
        exact h2
      · simp only [if_neg k0, if_neg k1] at h2 ⊢
        split at h2
        · rename_i k2
          rw [if_pos k2]
          simp only [decide_eq_true_eq] at h2 ⊢
          omega
        · cases h2
theorem dec_node {ns : List (Option Nd)} (hn : ∀ n, some n ∈ ns → nodeB n = true) (ht : (decS ns).told = true) : nodeB (decS ns).node = true :=
  up_node (fun h => go_node ns 0 Sg.zero hn (fun h2 => by cases h2) h) ht
theorem node_told {Ls : List (List Nd)} (htr : ∀ L ∈ Ls, treeB L = true) {p : ByteArray} (hp : pathB p = true) (hz : ¬ p.size = 0) (ht : (seenS Ls p).told = true) : nodeB (seenS Ls p).node = true := by
  obtain ⟨ab, e⟩ := seen_dec (Ls := Ls) hp hz
  rw [e] at ht ⊢
  refine dec_node (fun n hn => ?_) ht
  obtain ⟨L, hL, hm⟩ := ns_mem _ _ _ _ hn
  have h1 := htr L hL
  simp only [treeB, Bool.and_eq_true, decide_eq_true_eq] at h1
  exact goI_all L _ _ h1.2 n hm
theorem told_of {Ls : List (List Nd)} {p : ByteArray} (hp : pathB p = true) (hz : ¬ p.size = 0) (ht : (seenS Ls p).told = true) : ToldN Ls (seenS Ls p).node := by
  obtain ⟨ab, e⟩ := seen_dec (Ls := Ls) hp hz
  have h1 := ht
  rw [e] at h1
  obtain ⟨n, hn⟩ := dec_some h1
  obtain ⟨k, L, -, h3, h5, h6⟩ := ns_which _ _ _ _ hn
  exact ⟨L, List.mem_of_getElem? h3, n, h5, by rw [h6]; exact ht, by rw [h6]⟩
theorem parent_ok {p : ByteArray} (hp : pathB p = true) : pathB (parent p) = true := by
  have h := names_all hp
  rw [parent_glue]
  exact pathB_glue (fun t ht => h.1 t (List.dropLast_subset _ ht)) (by rw [List.length_dropLast]; omega)
theorem at4_all {Ls : List (List Nd)} (h4 : Ls.length ≤ 4) (htr : ∀ L ∈ Ls, treeB L = true) : ∀ (N : Nat) (p : ByteArray), pathB p = true → (names p).length = N → ∃ ks, At4 Ls ks p ∧ (¬ p.size = 0 → ks ≠ [] → (seenS Ls p).told = true ∧ (seenS Ls p).node.kind = 1) := by
  intro N
  induction N with
  | zero =>
    intro p _ hN
    have h0 : names p = [] := List.eq_nil_of_length_eq_zero hN
    have e : p = ⟨#[]⟩ := path_eq (by rw [h0, (right_root (s := ⟨#[]⟩) rfl).2])
    subst e
    exact ⟨_, at4_root h4, fun h => absurd rfl h⟩
  | succ N ih =>
    intro p hp hN
    have hz : p.size ≠ 0 := fun h => by rw [(right_root h).2] at hN; cases hN
    have hn := kid_names hp hz rfl
    obtain ⟨ks, ha, -⟩ := ih (parent p) (parent_ok hp) (by rw [hn, List.length_append, List.length_singleton] at hN; omega)
    have hc := child_seen h4 htr ha hp hn
    refine ⟨_, at4_down h4 htr ha hp hn, fun _ hk => ?_⟩
    obtain ⟨h1, h2⟩ := hc.dir hk
    exact ⟨by rw [← hc.told]; exact h1, by rw [← hc.node h1]; exact h2⟩
/-- The tree of all is right. -/
theorem all_tree {Ls : List (List Nd)} (h4 : Ls.length ≤ 4) (htr : ∀ L ∈ Ls, treeB L = true) (h40 : (allO Ls).length ≤ 40) : treeB (allO Ls) = true := by
  have ha := all_told h4 htr
  have hr := walk_rise h4 htr 7 _ _ (at4_root h4)
  refine (tree_iff _).2 ⟨h40, fun n hn => ?_, hr⟩
  obtain ⟨h1, h2, h3, h5⟩ := told_path htr ((ha.mem n).1 hn)
  refine ⟨by rw [h2]; exact node_told htr h3 h5 h1, (dirS_iff hr _).2 ?_⟩
  by_cases hq : (parent n.path).size = 0
  · exact .inl hq
  · right
    have hpq := parent_ok h3
    have hnm := kid_names h3 h5 rfl
    obtain ⟨ks, ha4, hd⟩ := at4_all h4 htr _ (parent n.path) hpq rfl
    have hks : ks ≠ [] := fun e => by
      obtain ⟨ps, g1, g2⟩ := seen_rest (Ls := Ls) h3 hpq hnm (by simp)
      rw [g2, walk_none Ls ps _ (by rw [ha4.parts, e]) g1] at h1
      cases h1
    obtain ⟨g1, g2⟩ := hd hq hks
    exact ⟨_, (ha.mem _).2 (told_of hpq hq g1), seen_path hpq hq g1, g2⟩
end Pl
end Go.Proofs.YtepmojmelcngeaaGreatDoor

/- What is seen at a path is what the tree of all has there. -/
namespace Go.Proofs.YtepmojmelcngeaaGreatDoor
namespace Pl
theorem all_find {Ls : List (List Nd)} (h4 : Ls.length ≤ 4) (htr : ∀ L ∈ Ls, treeB L = true) {p : ByteArray} (hp : pathB p = true) (hz : ¬ p.size = 0) : (allO Ls).find? (fun m => decide (m.path = p)) = if (seenS Ls p).told = true then some (seenS Ls p).node else none := by
  have ha := all_told h4 htr
  by_cases ht : (seenS Ls p).told = true
  · rw [if_pos ht]
    have hm := (ha.mem _).2 (told_of hp hz ht)
    have hpp := seen_path hp hz ht
    cases hf : (allO Ls).find? (fun m => decide (m.path = p)) with
    | none =>
      rw [List.find?_eq_none] at hf
      exact absurd (decide_eq_true hpp) (hf _ hm)
    | some m =>
      have h1 := List.mem_of_find?_eq_some hf
      have h2 : m.path = p := by simpa using List.find?_some hf
      rw [told_one htr ((ha.mem m).1 h1) ((ha.mem _).1 hm) (h2.trans hpp.symm)]
  · rw [if_neg ht, List.find?_eq_none]
    intro m hm h
    have h2 : m.path = p := by simpa using h
    have h3 := (told_path htr ((ha.mem m).1 hm)).1
    rw [h2] at h3
    exact ht h3
theorem seen_get {Ls : List (List Nd)} (hl : layB Ls = true) (h40 : (allO Ls).length ≤ 40) (p : ByteArray) : seenV Ls p = getV (allO Ls) p := by
  obtain ⟨h4, htr⟩ := lay_ok hl
  have ht := all_tree h4 htr h40
  unfold getV
  by_cases h8 : 8000 < p.size
  · rw [seen_long h8, if_pos h8]
  · rw [if_neg h8]
    by_cases hb : p.size = 0 ∨ pathB p = false
    · rw [seen_form h8 (.inr hb), if_pos (.inr hb)]
    · have hz : ¬ p.size = 0 := fun h => hb (.inl h)
      have hp : pathB p = true := by
        cases h : pathB p
        · exact absurd (.inr h) hb
        · rfl
      rw [if_neg (by rw [ht]; simp [hz, hp]), seen_end h8 hl hz hp, all_find h4 htr hp hz]
      by_cases hto : (seenS Ls p).told = true
      · rw [if_pos hto, if_pos hto]
      · rw [if_neg hto, if_neg hto]
end Pl
end Go.Proofs.YtepmojmelcngeaaGreatDoor

