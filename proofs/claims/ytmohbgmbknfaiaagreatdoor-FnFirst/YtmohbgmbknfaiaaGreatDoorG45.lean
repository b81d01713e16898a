/- Several texts of one claim in one file: PlainOverT, PlainSeenGet, PlainOv2, PlainFirst. -/
import Derived.Test.YtmohbgmbknfaiaaGreatDoorG39
import Derived.Test.YtmohbgmbknfaiaaGreatDoorG10
import Derived.Test.YtmohbgmbknfaiaaGreatDoorPlainOverC
/- What is told of right layers in all is a right tree, if there is room for it. -/
namespace Go.Proofs.YtmohbgmbknfaiaaGreatDoor
namespace Pl
theorem mark_node {n : Nd} {m : Int} (h : nodeB n = true) (hk : n.kind = 1) (hm : 0 ≤ m ∧ m ≤ 8) : nodeB ⟨n.path, n.kind, n.data, n.time, m⟩ = true := by
  unfold nodeB at h ⊢
  simp only [Bool.and_eq_true, decide_eq_true_eq] at h ⊢
  refine ⟨⟨h.1.1, hm⟩, ?_⟩
  have h2 := h.2
  unfold kindB at h2 ⊢
  simp only [hk] at h2 ⊢
  simpa using h2
theorem go_node : ∀ (ns : List (Option Nd)) (k : Nat) (s : Sg), (∀ n, some n ∈ ns → nodeB n = true) → (s.told = true → nodeB s.node = true ∧ s.node.kind = 1) → (goD k s ns).told = true → nodeB (goD k s ns).node = true := by
  intro ns
  induction ns with
  | nil => intro k s _ hs h; exact (hs h).1
  | cons x ns ih =>
    intro k s hn hs h
    have hn' : ∀ n, some n ∈ ns → nodeB n = true := fun n hm => hn n (List.mem_cons_of_mem _ hm)
    cases x with
    | none => exact ih _ _ hn' hs h
    | some n =>
      have h1 := hn n List.mem_cons_self
      have hb := node_bounds h1
      have ht : nodeB (takeS s k n).node = true ∧ (n.kind = 1 → (takeS s k n).node.kind = 1) := by
        unfold takeS markMax
        cases hst : s.told
        · simp only [Bool.false_eq_true, if_false]
          rw [Int.max_self]
          exact ⟨h1, fun h => h⟩
        · obtain ⟨h2, h3⟩ := hs hst
          have hb2 := node_bounds h2
          simp only [if_true]
          exact ⟨mark_node h2 h3 (by omega), fun _ => h3⟩
      rw [goD] at h ⊢
      split at h
      · rw [if_pos (by assumption)]; exact ht.1
      · rename_i hst
        rw [if_neg hst]
        refine ih _ _ hn' (fun _ => ⟨ht.1, ht.2 ?_⟩) h
        simp [stopB] at hst
        exact hst.1
theorem up_node {s : Sg} (h : s.told = true → nodeB s.node = true) (ht : (upS s).told = true) : nodeB (upS s).node = true := by
  unfold upS at ht ⊢
  split at ht
  · cases ht
  · rename_i hz
    rw [if_neg hz]
    have h1 := h ht
    have hb := node_bounds h1
    unfold nodeB at h1 ⊢
    simp only [Bool.and_eq_true, decide_eq_true_eq] at h1 ⊢
    refine ⟨⟨h1.1.1, by omega⟩, ?_⟩
    have h2 := h1.2
    unfold kindB at h2 ⊢
    simp only at hz h2 ⊢
    by_cases k0 : s.node.kind = 0
    · simp only [k0, if_true, Bool.and_eq_true, decide_eq_true_eq, true_and] at hz h2 ⊢
      exact ⟨h2.1, by omega⟩
    · by_cases k1 : s.node.kind = 1
      · simp only [if_neg k0, if_pos k1] at h2 ⊢
        exact h2
      · simp only [if_neg k0, if_neg k1] at h2 ⊢
        split at h2
        · rename_i k2
          rw [if_pos k2]
          simp only [decide_eq_true_eq] at h2 ⊢
          omega
        · cases h2
theorem dec_node {ns : List (Option Nd)} (hn : ∀ n, some n ∈ ns → nodeB n = true) (ht : (decS ns).told = true) : nodeB (decS ns).node = true :=
  up_node (fun h => go_node ns 0 Sg.zero hn (fun h2 => by cases h2) h) ht
theorem node_told {Ls : List (List Nd)} (htr : ∀ L ∈ Ls, treeB L = true) {p : ByteArray} (hp : pathB p = true) (hz : ¬ p.size = 0) (ht : (seenS Ls p).told = true) : nodeB (seenS Ls p).node = true := by
  obtain ⟨ab, e⟩ := seen_dec (Ls := Ls) hp hz
  rw [e] at ht ⊢
  refine dec_node (fun n hn => ?_) ht
  obtain ⟨L, hL, hm⟩ := ns_mem _ _ _ _ hn
  have h1 := htr L hL
  simp only [treeB, Bool.and_eq_true, decide_eq_true_eq] at h1
  exact goI_all L _ _ h1.2 n hm
theorem told_of {Ls : List (List Nd)} {p : ByteArray} (hp : pathB p = true) (hz : ¬ p.size = 0) (ht : (seenS Ls p).told = true) : ToldN Ls (seenS Ls p).node := by
  obtain ⟨ab, e⟩ := seen_dec (Ls := Ls) hp hz
  have h1 := ht
  rw [e] at h1
  obtain ⟨n, hn⟩ := dec_some h1
  obtain ⟨k, L, -, h3, h5, h6⟩ := ns_which _ _ _ _ hn
  exact ⟨L, List.mem_of_getElem? h3, n, h5, by rw [h6]; exact ht, by rw [h6]⟩
theorem parent_ok {p : ByteArray} (hp : pathB p = true) : pathB (parent p) = true := by
  have h := names_all hp
  rw [parent_glue]
  exact pathB_glue (fun t ht => h.1 t (List.dropLast_subset _ ht)) (by rw [List.length_dropLast]; omega)
theorem at4_all {Ls : List (List Nd)} (h4 : Ls.length ≤ 4) (htr : ∀ L ∈ Ls, treeB L = true) : ∀ (N : Nat) (p : ByteArray), pathB p = true → (names p).length = N → ∃ ks, At4 Ls ks p ∧ (¬ p.size = 0 → ks ≠ [] → (seenS Ls p).told = true ∧ (seenS Ls p).node.kind = 1) := by
  intro N
  induction N with
  | zero =>
    intro p _ hN
    have h0 : names p = [] := List.eq_nil_of_length_eq_zero hN
    have e : p = ⟨#[]⟩ := path_eq (by rw [h0, (right_root (s := ⟨#[]⟩) rfl).2])
    subst e
    exact ⟨_, at4_root h4, fun h => absurd rfl h⟩
  | succ N ih =>
    intro p hp hN
    have hz : p.size ≠ 0 := fun h => by rw [(right_root h).2] at hN; cases hN
    have hn := kid_names hp hz rfl
    obtain ⟨ks, ha, -⟩ := ih (parent p) (parent_ok hp) (by rw [hn, List.length_append, List.length_singleton] at hN; omega)
    have hc := child_seen h4 htr ha hp hn
    refine ⟨_, at4_down h4 htr ha hp hn, fun _ hk => ?_⟩
    obtain ⟨h1, h2⟩ := hc.dir hk
    exact ⟨by rw [← hc.told]; exact h1, by rw [← hc.node h1]; exact h2⟩
/-- The tree of all is right. -/
theorem all_tree {Ls : List (List Nd)} (h4 : Ls.length ≤ 4) (htr : ∀ L ∈ Ls, treeB L = true) (h40 : (allO Ls).length ≤ 40) : treeB (allO Ls) = true := by
  have ha := all_told h4 htr
  have hr := walk_rise h4 htr 7 _ _ (at4_root h4)
  refine (tree_iff _).2 ⟨h40, fun n hn => ?_, hr⟩
  obtain ⟨h1, h2, h3, h5⟩ := told_path htr ((ha.mem n).1 hn)
  refine ⟨by rw [h2]; exact node_told htr h3 h5 h1, (dirS_iff hr _).2 ?_⟩
  by_cases hq : (parent n.path).size = 0
  · exact .inl hq
  · right
    have hpq := parent_ok h3
    have hnm := kid_names h3 h5 rfl
    obtain ⟨ks, ha4, hd⟩ := at4_all h4 htr _ (parent n.path) hpq rfl
    have hks : ks ≠ [] := fun e => by
      obtain ⟨ps, g1, g2⟩ := seen_rest (Ls := Ls) h3 hpq hnm (by simp)
      rw [g2, walk_none Ls ps _ (by rw [ha4.parts, e]) g1] at h1
      cases h1
    obtain ⟨g1, g2⟩ := hd hq hks
    exact ⟨_, (ha.mem _).2 (told_of hpq hq g1), seen_path hpq hq g1, g2⟩
end Pl
end Go.Proofs.YtmohbgmbknfaiaaGreatDoor

/- What is seen at a path is what the tree of all has there. -/
namespace Go.Proofs.YtmohbgmbknfaiaaGreatDoor
namespace Pl
theorem all_find {Ls : List (List Nd)} (h4 : Ls.length ≤ 4) (htr : ∀ L ∈ Ls, treeB L = true) {p : ByteArray} (hp : pathB p = true) (hz : ¬ p.size = 0) : (allO Ls).find? (fun m => decide (m.path = p)) = if (seenS Ls p).told = true then some (seenS Ls p).node else none := by
  have ha := all_told h4 htr
  by_cases ht : (seenS Ls p).told = true
  · rw [if_pos ht]
    have hm := (ha.mem _).2 (told_of hp hz ht)
    have hpp := seen_path hp hz ht
    cases hf : (allO Ls).find? (fun m => decide (m.path = p)) with
    | none =>
      rw [List.find?_eq_none] at hf
      exact absurd (decide_eq_true hpp) (hf _ hm)
    | some m =>
      have h1 := List.mem_of_find?_eq_some hf
      have h2 : m.path = p := by simpa using List.find?_some hf
      rw [told_one htr ((ha.mem m).1 h1) ((ha.mem _).1 hm) (h2.trans hpp.symm)]
  · rw [if_neg ht, List.find?_eq_none]
    intro m hm h
    have h2 : m.path = p := by simpa using h
    have h3 := (told_path htr ((ha.mem m).1 hm)).1
    rw [h2] at h3
    exact ht h3
theorem seen_get {Ls : List (List Nd)} (hl : layB Ls = true) (h40 : (allO Ls).length ≤ 40) (p : ByteArray) : seenV Ls p = getV (allO Ls) p := by
  obtain ⟨h4, htr⟩ := lay_ok hl
  have ht := all_tree h4 htr h40
  unfold getV
  by_cases h8 : 8000 < p.size
  · rw [seen_long h8, if_pos h8]
  · rw [if_neg h8]
    by_cases hb : p.size = 0 ∨ pathB p = false
    · rw [seen_form h8 (.inr hb), if_pos (.inr hb)]
    · have hz : ¬ p.size = 0 := fun h => hb (.inl h)
      have hp : pathB p = true := by
        cases h : pathB p
        · exact absurd (.inr h) hb
        · rfl
      rw [if_neg (by rw [ht]; simp [hz, hp]), seen_end h8 hl hz hp, all_find h4 htr hp hz]
      by_cases hto : (seenS Ls p).told = true
      · rw [if_pos hto, if_pos hto]
      · rw [if_neg hto, if_neg hto]
end Pl
end Go.Proofs.YtmohbgmbknfaiaaGreatDoor

/- What Over answers, plainly. -/
namespace Go.Proofs.YtmohbgmbknfaiaaGreatDoor
namespace Pl
theorem over_small (Ls : List (List Nd)) : ∀ n ∈ overN Ls (allO Ls), n.path.size ≤ 1048576 ∧ n.data.size ≤ 1048576 := by
  intro n hn
  unfold overN at hn
  split at hn
  · rename_i h
    obtain ⟨h4, htr⟩ := lay_ok h.1
    have h2 := told_ok htr (((all_told h4 htr).mem n).1 hn)
    have := pathB_le h2.1
    exact ⟨by omega, h2.2⟩
  · cases hn
theorem all_lay (Ls : List (List Nd)) (h : layB Ls = true) : AllN Ls (allO Ls) := all_told (lay_ok h).1 (lay_ok h).2
theorem over_le (Ls : List (List Nd)) (O : List Nd) : (overN Ls O).length ≤ 40 := by
  unfold overN
  split
  · rename_i h; exact h.2
  · exact Nat.zero_le _
theorem over_all {Ls : List (List Nd)} (h : overC Ls (allO Ls) = 0) : layB Ls = true ∧ (allO Ls).length ≤ 40 ∧ overN Ls (allO Ls) = allO Ls := by
  unfold overC at h
  split at h
  · rename_i hl
    split at h
    · cases h
    · rename_i h40
      have h41 : (allO Ls).length ≤ 40 := by omega
      exact ⟨hl, h41, by rw [overN, if_pos ⟨hl, h41⟩]⟩
  · cases h
theorem over_tree {Ls : List (List Nd)} (h : overC Ls (allO Ls) = 0) : treeB (overN Ls (allO Ls)) = true := by
  obtain ⟨h1, h2, h3⟩ := over_all h
  rw [h3]
  exact all_tree (lay_ok h1).1 (lay_ok h1).2 h2
theorem over_get {Ls : List (List Nd)} (h : overC Ls (allO Ls) = 0) (p : ByteArray) : getV (overN Ls (allO Ls)) p = seenV Ls p := by
  obtain ⟨h1, h2, h3⟩ := over_all h
  rw [h3]
  exact (seen_get h1 h2 p).symm
end Pl
end Go.Proofs.YtmohbgmbknfaiaaGreatDoor

/- What stands in the uppermost layer is seen as it is there; a layer more below changes nothing of it; who has a part in a path. -/
namespace Go.Proofs.YtmohbgmbknfaiaaGreatDoor
namespace Pl
/-- A node but for its mark. -/
structure Alike (a b : Nd) : Prop where
  path : a.path = b.path
  kind : a.kind = b.kind
  data : a.data = b.data
  time : a.time = b.time
theorem Alike.refl (a : Nd) : Alike a a := ⟨rfl, rfl, rfl, rfl⟩
theorem Alike.trans {a b c : Nd} (h : Alike a b) (g : Alike b c) : Alike a c := ⟨h.1.trans g.1, h.2.trans g.2, h.3.trans g.3, h.4.trans g.4⟩
theorem take_told {s : Sg} {k : Nat} {n : Nd} (h : s.told = true) : Alike (takeS s k n).node s.node := by
  unfold takeS markMax
  rw [h]
  exact ⟨rfl, rfl, rfl, rfl⟩
theorem go_keep : ∀ (ns : List (Option Nd)) (k : Nat) (s : Sg), s.told = true → (goD k s ns).told = true ∧ Alike (goD k s ns).node s.node := by
  intro ns
  induction ns with
  | nil => intro k s h; exact ⟨h, Alike.refl _⟩
  | cons x ns ih =>
    intro k s h
    cases x with
    | none => exact ih _ _ h
    | some n =>
      rw [goD]
      split
      · exact ⟨rfl, take_told h⟩
      · obtain ⟨h1, h2⟩ := ih (k + 1) (takeS s k n) rfl
        exact ⟨h1, h2.trans (take_told h)⟩
theorem go_low : ∀ (ns : List (Option Nd)) (k : Nat) (s : Sg) (i : Nat), i < k → (goD k s ns).have'[i]? = s.have'[i]? := by
  intro ns
  induction ns with
  | nil => intro k s i _; rfl
  | cons x ns ih =>
    intro k s i hi
    cases x with
    | none => exact ih _ _ _ (by omega)
    | some n =>
      have ht : (takeS s k n).have'[i]? = s.have'[i]? := by
        unfold takeS
        simp only
        rw [List.getElem?_set_ne (by omega)]
      rw [goD]
      split
      · exact ht
      · rw [ih _ _ _ (by omega), ht]
theorem up_dir {s : Sg} (h : s.node.kind ≠ 0) : (upS s).told = s.told ∧ Alike (upS s).node s.node ∧ (upS s).have' = s.have' := by
  unfold upS
  rw [if_neg (fun h2 => h h2.1)]
  exact ⟨rfl, ⟨rfl, rfl, rfl, rfl⟩, rfl⟩
theorem up_gone {s : Sg} (h : s.node.kind = 0) (ht : (upS s).told = true) : (upS s).node.kind = 0 := by
  unfold upS at ht ⊢
  split at ht
  · cases ht
  · rename_i hz
    rw [if_neg hz]
    exact h
/-- What the first one of those that are asked has, is what is seen. -/
theorem dec_first {n : Nd} (hn : nodeB n = true) (r : List (Option Nd)) :
    (n.kind = 0 → (decS (some n :: r)).told = true → (decS (some n :: r)).node.kind = 0) ∧
    (n.kind = 2 → (decS (some n :: r)).told = true ∧ (decS (some n :: r)).node = n) ∧
    (n.kind = 1 → (decS (some n :: r)).told = true ∧ Alike (decS (some n :: r)).node n ∧ (decS (some n :: r)).have'[0]? = some true) := by
  have e : (takeS Sg.zero 0 n).node = n := by
    unfold takeS markMax Sg.zero
    simp
  have et : (takeS Sg.zero 0 n).told = true := rfl
  unfold decS
  refine ⟨fun hk => ?_, fun hk => ?_, fun hk => ?_⟩
  · have hs : stopB n = true := by simp [stopB, hk]
    rw [goD, if_pos hs]
    exact up_gone (by rw [e]; exact hk)
  · have hs : stopB n = true := by simp [stopB, hk]
    have hm : n.mark = 0 := by
      unfold nodeB at hn
      simp only [Bool.and_eq_true, decide_eq_true_eq] at hn
      have h2 := hn.2
      unfold kindB at h2
      simpa [hk] using h2
    rw [goD, if_pos hs]
    have hu : upS (takeS Sg.zero 0 n) = ⟨true, ⟨n.path, n.kind, n.data, n.time, max (n.mark - 1) 0⟩, (takeS Sg.zero 0 n).have'⟩ := by
      unfold upS
      rw [if_neg (by rw [e]; omega), e]
      rfl
    rw [hu]
    refine ⟨rfl, ?_⟩
    rw [hm]
    obtain ⟨p, k, d, t, m⟩ := n
    simp only at hm
    subst hm
    rfl
  · have hh : (takeS Sg.zero 0 n).have'[0]? = some true := by
      unfold takeS Sg.zero
      simp [hk]
    have key : ∀ s : Sg, s.told = true → Alike s.node n → s.have'[0]? = some true → (upS s).told = true ∧ Alike (upS s).node n ∧ (upS s).have'[0]? = some true := fun s h1 h2 h3 => by
      obtain ⟨g1, g2, g3⟩ := up_dir (s := s) (by rw [h2.kind, hk]; decide)
      exact ⟨by rw [g1]; exact h1, g2.trans h2, by rw [g3]; exact h3⟩
    rw [goD]
    split
    · exact key _ rfl (by rw [e]; exact Alike.refl n) hh
    · obtain ⟨h1, h2⟩ := go_keep r 1 (takeS Sg.zero 0 n) rfl
      refine key _ h1 (by rw [e] at h2; exact h2) ?_
      rw [go_low r 1 _ 0 (by omega)]
      exact hh
theorem lk_in {L : List Nd} (h : treeB L = true) {n : Nd} (hn : n ∈ L) : lk L n.path = some n := by
  obtain ⟨-, -, hr⟩ := (tree_iff L).1 h
  unfold lk
  cases hf : L.find? (fun m => decide (m.path = n.path)) with
  | none =>
    rw [List.find?_eq_none] at hf
    exact absurd (decide_eq_true rfl) (hf _ hn)
  | some m =>
    have h1 := List.mem_of_find?_eq_some hf
    have h2 : m.path = n.path := by simpa using List.find?_some hf
    by_cases e : m = n
    · rw [e]
    · exfalso
      obtain ⟨i, hi⟩ := List.getElem?_of_mem h1
      obtain ⟨j, hj⟩ := List.getElem?_of_mem hn
      have hi2 := List.getElem?_eq_some_iff.1 hi
      have hj2 := List.getElem?_eq_some_iff.1 hj
      rw [List.pairwise_iff_getElem] at hr
      rcases Nat.lt_trichotomy i j with hlt | heq | hlt
      · have := hr i j hi2.1 hj2.1 hlt
        rw [hi2.2, hj2.2, h2, less_irr] at this
        cases this
      · subst heq
        rw [hi] at hj
        exact e (Option.some.inj hj)
      · have := hr j i hj2.1 hi2.1 hlt
        rw [hi2.2, hj2.2, h2, less_irr] at this
        cases this
theorem root_part (L : List Nd) (Ls : List (List Nd)) (h4 : (L :: Ls).length ≤ 4) {q : ByteArray} (h : q.size = 0) : (seenS (L :: Ls) q).have'[0]? = some true := by
  have e : q = ⟨#[]⟩ := by
    cases q with
    | mk a => have : a = #[] := Array.size_eq_zero_iff.1 h; rw [this]
  subst e
  rw [(at4_root h4).parts]
  simp [partsB]
/-- The uppermost layer has a part in each of its directories. -/
theorem first_part {L : List Nd} {Ls : List (List Nd)} (h4 : (L :: Ls).length ≤ 4) (hL : treeB L = true) : ∀ (N : Nat) (q : ByteArray), (names q).length = N → pathB q = true → (q.size = 0 ∨ ∃ m ∈ L, m.path = q ∧ m.kind = 1) → (seenS (L :: Ls) q).have'[0]? = some true := by
  intro N
  induction N with
  | zero =>
    intro q hN hq _
    refine root_part L Ls h4 ?_
    by_cases h : q.size = 0
    · exact h
    · have := names_pos h; omega
  | succ N ih =>
    intro q hN hq hd
    rcases hd with h0 | ⟨m, hm, he, hk⟩
    · exact root_part L Ls h4 h0
    · subst he
      have hz := (node_way hL hm).2
      obtain ⟨-, hnd, hr⟩ := (tree_iff L).1 hL
      have hn := kid_names hq hz rfl
      have hpq := parent_ok hq
      have hpart := ih (parent m.path) (by rw [hn, List.length_append, List.length_singleton] at hN; omega) hpq ((dirS_iff hr _).1 (hnd m hm).2)
      rw [seen_kid hpq hq hn]
      cases hh : (seenS (L :: Ls) (parent m.path)).have' with
      | nil => rw [hh] at hpart; cases hpart
      | cons a ab =>
        rw [hh] at hpart
        have ha : a = true := by simpa using hpart
        subst ha
        rw [nsOf, if_pos rfl, lk_in hL hm]
        exact ((dec_first (hnd m hm).1 _).2.2 hk).2.2
/-- What stands in the uppermost layer is decided first. -/
theorem first_seen {L : List Nd} {Ls : List (List Nd)} (h4 : (L :: Ls).length ≤ 4) (hL : treeB L = true) {n : Nd} (hn : n ∈ L) : nodeB n = true ∧ ∃ r, seenS (L :: Ls) n.path = decS (some n :: r) := by
  obtain ⟨hp, hz⟩ := node_way hL hn
  obtain ⟨-, hnd, hr⟩ := (tree_iff L).1 hL
  have hnm := kid_names hp hz rfl
  have hpq := parent_ok hp
  have hpart := first_part (Ls := Ls) h4 hL _ (parent n.path) rfl hpq ((dirS_iff hr _).1 (hnd n hn).2)
  refine ⟨(hnd n hn).1, ?_⟩
  rw [seen_kid hpq hp hnm]
  cases hh : (seenS (L :: Ls) (parent n.path)).have' with
  | nil => rw [hh] at hpart; cases hpart
  | cons a ab =>
    rw [hh] at hpart
    have ha : a = true := by simpa using hpart
    subst ha
    rw [nsOf, if_pos rfl, lk_in hL hn]
    exact ⟨_, rfl⟩
/-- What SeenAt answers of a node of the uppermost layer. -/
theorem first_says {Ls : List (List Nd)} (hl : layB Ls = true) {L : List Nd} (h0 : Ls[0]? = some L) {n : Nd} (hn : n ∈ L) :
    ∃ (np : ByteArray) (nk : Int) (nd : ByteArray) (nt nm c : Int), seenV Ls n.path = .agg #[.string np, .int .i64 nk, .string nd, .int .i64 nt, .int .i64 nm, .int .i64 c] ∧
      (n.kind = 0 → c = 0 → nk = 0) ∧ (n.kind = 2 → np = n.path ∧ nk = 2 ∧ nd = n.data ∧ nt = n.time ∧ nm = n.mark ∧ c = 0) ∧ (n.kind = 1 → c = 0 ∧ nk = 1 ∧ nt = n.time) ∧ (n.kind = 0 ∨ n.kind = 1 ∨ n.kind = 2) := by
  obtain ⟨h4, htr⟩ := lay_ok hl
  cases Ls with
  | nil => cases h0
  | cons M Ls =>
    have e : M = L := by simpa using h0
    subst e
    have hL := htr M List.mem_cons_self
    obtain ⟨hp, hz⟩ := node_way hL hn
    obtain ⟨hb, r, hs⟩ := first_seen (Ls := Ls) h4 hL hn
    obtain ⟨f0, f2, f1⟩ := dec_first hb r
    rw [← hs] at f0 f2 f1
    have h8 : ¬ 8000 < n.path.size := by have := pathB_le hp; omega
    rw [seen_end h8 hl hz hp]
    have hk3 : n.kind = 0 ∨ n.kind = 1 ∨ n.kind = 2 := by
      unfold nodeB at hb
      simp only [Bool.and_eq_true, decide_eq_true_eq] at hb
      have h2 := hb.2
      unfold kindB at h2
      by_cases k0 : n.kind = 0
      · exact .inl k0
      by_cases k1 : n.kind = 1
      · exact .inr (.inl k1)
      by_cases k2 : n.kind = 2
      · exact .inr (.inr k2)
      simp [k0, k1, k2] at h2
    by_cases ht : (seenS (M :: Ls) n.path).told = true
    · rw [if_pos ht]
      refine ⟨_, _, _, _, _, _, rfl, fun hk _ => f0 hk ht, fun hk => ?_, fun hk => ?_, hk3⟩
      · rw [(f2 hk).2]
        exact ⟨rfl, hk, rfl, rfl, rfl, rfl⟩
      · obtain ⟨-, g2, -⟩ := f1 hk
        exact ⟨rfl, g2.kind.trans hk, g2.time⟩
    · rw [if_neg ht]
      refine ⟨_, _, _, _, _, _, rfl, fun _ h => (by cases h), fun hk => absurd (f2 hk).1 ht, fun hk => absurd (f1 hk).1 ht, hk3⟩
end Pl
end Go.Proofs.YtmohbgmbknfaiaaGreatDoor

