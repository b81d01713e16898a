/- Several texts of one claim in one file: PlainWalkO, PlainWalkP. -/
import Derived.Test.YtepmojmelcngeaaGreatDoorG18
import Derived.Test.YtepmojmelcngeaaGreatDoorPlainAtS
import Derived.Test.YtepmojmelcngeaaGreatDoorG36
import Derived.Test.YtepmojmelcngeaaGreatDoorG41
import Derived.Test.YtepmojmelcngeaaGreatDoorPlainOverC
/- What the specification walks over is what is told of layers, in order. -/
namespace Go.Proofs.YtepmojmelcngeaaGreatDoor
namespace Pl
theorem lessT_trans {a b c : ByteArray} (h1 : lessT a b = true) (h2 : lessT b c = true) : lessT a c = true := bytes_trans _ _ _ h1 h2
theorem lessT_irr (a : ByteArray) : lessT a a = false := bytes_irr _
theorem lessT_tot {a b : ByteArray} (h : a ≠ b) (h2 : lessT a b = false) : lessT b a = true := by
  have h3 := bytesLess_anti a.toList b.toList (fun e => h (by have := WNamesT.tl_eq h; rw [e] at this; simp at this))
  unfold lessT at h2 ⊢
  rw [h2] at h3
  cases h4 : Op.bytesLess b.toList a.toList
  · rw [h4] at h3; cases h3
  · rfl
def Rise (l : List ByteArray) : Prop := l.Pairwise (fun a b => lessT a b = true)
theorem ins_mem (t x : ByteArray) : ∀ l : List ByteArray, x ∈ insN t l ↔ x = t ∨ x ∈ l := by
  intro l
  induction l with
  | nil => simp [insN]
  | cons a l ih =>
    rw [insN]
    split
    · rw [List.mem_cons, ih, List.mem_cons]
      constructor
      · rintro (h | h | h)
        · exact .inr (.inl h)
        · exact .inl h
        · exact .inr (.inr h)
      · rintro (h | h | h)
        · exact .inr (.inl h)
        · exact .inl h
        · exact .inr (.inr h)
    · split
      · rename_i e
        subst e
        simp
      · simp
theorem ins_rise (t : ByteArray) : ∀ l : List ByteArray, Rise l → Rise (insN t l) := by
  intro l
  induction l with
  | nil => intro _; exact List.pairwise_singleton _ _
  | cons a l ih =>
    intro h
    have h' := List.pairwise_cons.1 h
    rw [insN]
    split
    · rename_i hlt
      refine List.pairwise_cons.2 ⟨fun x hx => ?_, ih h'.2⟩
      rcases (ins_mem t x l).1 hx with e | e
      · rw [e]; exact hlt
      · exact h'.1 x e
    · rename_i hlt
      split
      · exact h
      · rename_i hne
        have hta : lessT t a = true := lessT_tot (fun e => hne e) (by simpa using hlt)
        refine List.pairwise_cons.2 ⟨fun x hx => ?_, h⟩
        rcases List.mem_cons.1 hx with e | e
        · rw [e]; exact hta
        · exact lessT_trans hta (h'.1 x e)
theorem insAll_ok : ∀ (K out : List ByteArray), Rise out → Rise (insAll out K) ∧ ∀ x, x ∈ insAll out K ↔ x ∈ out ∨ x ∈ K := by
  intro K
  induction K with
  | nil => intro out h; exact ⟨h, fun x => by simp [insAll]⟩
  | cons t K ih =>
    intro out h
    obtain ⟨h1, h2⟩ := ih (insN t out) (ins_rise t out h)
    refine ⟨h1, fun x => ?_⟩
    show x ∈ insAll (insN t out) K ↔ _
    rw [h2, ins_mem, List.mem_cons]
    constructor
    · rintro ((h | h) | h)
      · exact .inr (.inl h)
      · exact .inl h
      · exact .inr (.inr h)
    · rintro (h | h | h)
      · exact .inl (.inr h)
      · exact .inl (.inl h)
      · exact .inr h
theorem namesK_ok (Ls : List (List Nd)) (q : ByteArray) (ks : List Nat) : Rise (namesK Ls q ks) ∧ ∀ x, x ∈ namesK Ls q ks ↔ ∃ k ∈ ks, x ∈ kidsL q (Ls.getD k []) := by
  have key : ∀ (ks : List Nat) (out : List ByteArray), Rise out → Rise (ks.foldl (fun o k => insAll o (kidsL q (Ls.getD k []))) out) ∧ ∀ x, x ∈ ks.foldl (fun o k => insAll o (kidsL q (Ls.getD k []))) out ↔ x ∈ out ∨ ∃ k ∈ ks, x ∈ kidsL q (Ls.getD k []) := by
    intro ks
    induction ks with
    | nil => intro out h; exact ⟨h, fun x => by simp⟩
    | cons k ks ih =>
      intro out h
      obtain ⟨h1, h2⟩ := insAll_ok (kidsL q (Ls.getD k [])) out h
      obtain ⟨h3, h4⟩ := ih _ h1
      refine ⟨h3, fun x => ?_⟩
      rw [List.foldl_cons, h4, h2]
      constructor
      · rintro ((h | h) | ⟨j, hj, hx⟩)
        · exact .inl h
        · exact .inr ⟨k, List.mem_cons_self, h⟩
        · exact .inr ⟨j, List.mem_cons_of_mem _ hj, hx⟩
      · rintro (h | ⟨j, hj, hx⟩)
        · exact .inl (.inl h)
        · rcases List.mem_cons.1 hj with e | e
          · subst e; exact .inl (.inr hx)
          · exact .inr ⟨j, e, hx⟩
  obtain ⟨h1, h2⟩ := key ks [] List.Pairwise.nil
  exact ⟨h1, fun x => by show x ∈ ks.foldl _ [] ↔ _; rw [h2]; simp⟩
/-- One name of a directory. -/
def stepO (sub : List Nat → ByteArray → List Nd) (Ls : List (List Nd)) (ks : List Nat) (q t : ByteArray) : List Nd :=
  if (childO Ls ks (joinN q t)).ok = true then (childO Ls ks (joinN q t)).node :: (if (childO Ls ks (joinN q t)).node.kind = 1 then sub (childO Ls ks (joinN q t)).parts (joinN q t) else []) else []
/-- All that is told under a path. -/
def walkO (Ls : List (List Nd)) : Nat → List Nat → ByteArray → List Nd
  | 0, _, _ => []
  | d + 1, ks, q => (namesK Ls q ks).flatMap (stepO (walkO Ls d) Ls ks q)
/-- Who has a part in a path, as the specification has it. -/
structure At4 (Ls : List (List Nd)) (ks : List Nat) (q : ByteArray) : Prop where
  sub : ks.Sublist (List.range Ls.length)
  path : pathB q = true
  parts : (seenS Ls q).have' = partsB ks
theorem seen_kid {Ls : List (List Nd)} {q p t : ByteArray} (hq : pathB q = true) (hp : pathB p = true) (h : names p = names q ++ [t]) : seenS Ls p = decS (nsOf (seenS Ls q).have' Ls p) := by
  unfold seenS
  rw [namesR_yes hp, namesR_yes hq, h, List.length_append, List.length_singleton, ways_succ, walk_snoc]
  have e1 : ways (names q ++ [t]) (names q).length = ways (names q) (names q).length := by
    unfold ways
    apply List.map_congr_left
    intro i hi
    have hi2 := List.mem_range.1 hi
    rw [List.take_append_of_le_length (by omega)]
  have e2 : glue ((names q ++ [t]).take ((names q).length + 1)) = p := by
    rw [List.take_of_length_le (by simp), ← h, glue_names]
  rw [e1, e2]
end Pl
end Go.Proofs.YtepmojmelcngeaaGreatDoor

/- .. that it is all of it, and in order. -/
namespace Go.Proofs.YtepmojmelcngeaaGreatDoor
namespace Pl
theorem names_all {q : ByteArray} (h : pathB q = true) : (∀ t ∈ names q, nameB t = true) ∧ (names q).length ≤ 6 := by
  have e := namesR_all q
  rw [namesR_yes h] at e
  exact e
theorem kid_in {L : List Nd} {q t : ByteArray} (hL : treeB L = true) (ht : t ∈ kidsL q L) : ∃ n ∈ L, names n.path = names q ++ [t] ∧ pathB n.path = true := by
  unfold kidsL at ht
  obtain ⟨n, hn, rfl⟩ := List.mem_map.1 ht
  obtain ⟨hn1, hn2⟩ := List.mem_filter.1 hn
  have h1 := tree_nodes hL n hn1
  exact ⟨n, hn1, kid_names h1.1 h1.2 (of_decide_eq_true hn2), h1.1⟩
theorem kid_of {L : List Nd} {q t : ByteArray} {n : Nd} (hL : treeB L = true) (hn : n ∈ L) (h : names n.path = names q ++ [t]) : t ∈ kidsL q L := by
  have h1 := tree_nodes hL n hn
  have hk := kid_names h1.1 h1.2 rfl
  rw [h] at hk
  have h2 := List.append_inj_left' hk rfl
  have h3 := List.append_inj_right' hk rfl
  have h4 : parent n.path = q := path_eq h2.symm
  unfold kidsL
  refine List.mem_map.2 ⟨n, List.mem_filter.2 ⟨hn, by simpa using h4⟩, ?_⟩
  simpa using h3.symm
theorem join_path {q t p : ByteArray} (_ : pathB p = true) (h : names p = names q ++ [t]) : joinN q t = p := by
  rw [joinN, ← h, glue_names]
theorem nk_node {Ls : List (List Nd)} (_  : Ls.length ≤ 4) (htr : ∀ L ∈ Ls, treeB L = true) {ks : List Nat} {q t : ByteArray} (ha : At4 Ls ks q) (ht : t ∈ namesK Ls q ks) : ∃ L ∈ Ls, ∃ n ∈ L, n.path = joinN q t ∧ names (joinN q t) = names q ++ [t] ∧ pathB (joinN q t) = true := by
  obtain ⟨k, hk, hx⟩ := ((namesK_ok Ls q ks).2 t).1 ht
  have hkl : k < Ls.length := by have := ha.sub.subset hk; rwa [List.mem_range] at this
  have hL : Ls.getD k [] = Ls[k] := by simp [List.getD, hkl]
  rw [hL] at hx
  have hm : Ls[k] ∈ Ls := List.getElem_mem hkl
  obtain ⟨n, hn, h1, h2⟩ := kid_in (htr _ hm) hx
  have e := join_path h2 h1
  rw [e]
  exact ⟨Ls[k], hm, n, hn, rfl, h1, h2⟩
theorem child_seen {Ls : List (List Nd)} (h4 : Ls.length ≤ 4) (htr : ∀ L ∈ Ls, treeB L = true) {ks : List Nat} {q p t : ByteArray} (ha : At4 Ls ks q) (hp : pathB p = true) (hn : names p = names q ++ [t]) : SameO (childO Ls ks p) (seenS Ls p) := by
  rw [seen_kid ha.path hp hn, ha.parts]
  exact child_same h4 htr ha.sub
theorem at4_down {Ls : List (List Nd)} (h4 : Ls.length ≤ 4) (htr : ∀ L ∈ Ls, treeB L = true) {ks : List Nat} {q p t : ByteArray} (ha : At4 Ls ks q) (hp : pathB p = true) (hn : names p = names q ++ [t]) : At4 Ls (childO Ls ks p).parts p :=
  ⟨child_sub ha.sub, hp, (child_seen h4 htr ha hp hn).parts⟩
/-- What comes of one name. -/
theorem step_in {Ls : List (List Nd)} (h4 : Ls.length ≤ 4) (htr : ∀ L ∈ Ls, treeB L = true) {ks : List Nat} {q t : ByteArray} (ha : At4 Ls ks q) (ht : t ∈ namesK Ls q ks) {sub : List Nat → ByteArray → List Nd} {n : Nd} (hn : n ∈ stepO sub Ls ks q t) :
    names (joinN q t) = names q ++ [t] ∧ pathB (joinN q t) = true ∧ ((ToldN Ls n ∧ n.path = joinN q t) ∨ (At4 Ls (childO Ls ks (joinN q t)).parts (joinN q t) ∧ n ∈ sub (childO Ls ks (joinN q t)).parts (joinN q t))) := by
  obtain ⟨L, hL, m, hm, e1, e2, e3⟩ := nk_node h4 htr ha ht
  refine ⟨e2, e3, ?_⟩
  have hc := child_seen h4 htr ha e3 e2
  unfold stepO at hn
  split at hn
  · rename_i hok
    rcases List.mem_cons.1 hn with h | h
    · left
      have h1 := hc.node hok
      have h2 : (seenS Ls (joinN q t)).told = true := by rw [← hc.told]; exact hok
      have hz : ¬ (joinN q t).size = 0 := by
        have := tree_nodes (htr L hL) m hm
        rw [e1] at this
        exact this.2
      refine ⟨⟨L, hL, m, hm, ?_, ?_⟩, ?_⟩
      · rw [e1]; exact h2
      · rw [e1, h, h1]
      · rw [h, h1]; exact seen_path e3 hz h2
    · right
      split at h
      · exact ⟨at4_down h4 htr ha e3 e2, h⟩
      · cases h
  · cases hn
theorem walk_sound {Ls : List (List Nd)} (h4 : Ls.length ≤ 4) (htr : ∀ L ∈ Ls, treeB L = true) : ∀ (d : Nat) (ks : List Nat) (q : ByteArray), At4 Ls ks q → ∀ n ∈ walkO Ls d ks q, ToldN Ls n ∧ ∃ t R, names n.path = names q ++ t :: R := by
  intro d
  induction d with
  | zero => intro ks q _ n hn; cases hn
  | succ d ih =>
    intro ks q ha n hn
    rw [walkO] at hn
    obtain ⟨t, ht, hx⟩ := List.mem_flatMap.1 hn
    obtain ⟨e2, e3, h⟩ := step_in h4 htr ha ht hx
    rcases h with ⟨h1, h2⟩ | ⟨h1, h2⟩
    · exact ⟨h1, t, [], by rw [h2, e2]⟩
    · obtain ⟨g1, t', R', g2⟩ := ih _ _ h1 n h2
      exact ⟨g1, t, t' :: R', by rw [g2, e2]; simp⟩
theorem less_app (Q A B : List ByteArray) : lessL (Q ++ A) (Q ++ B) = lessL A B := by
  induction Q with
  | nil => rfl
  | cons a Q ih => simp only [List.cons_append, lessL, if_true]; exact ih
theorem walk_rise {Ls : List (List Nd)} (h4 : Ls.length ≤ 4) (htr : ∀ L ∈ Ls, treeB L = true) : ∀ (d : Nat) (ks : List Nat) (q : ByteArray), At4 Ls ks q → (walkO Ls d ks q).Pairwise (fun a b => lessL (names a.path) (names b.path) = true) := by
  intro d
  induction d with
  | zero => intro ks q _; exact List.Pairwise.nil
  | succ d ih =>
    intro ks q ha
    rw [walkO, List.pairwise_flatMap]
    have hgrp : ∀ t ∈ namesK Ls q ks, ∀ x ∈ stepO (walkO Ls d) Ls ks q t, ∃ R, names x.path = names q ++ t :: R := fun t ht x hx => by
      obtain ⟨e2, e3, h⟩ := step_in h4 htr ha ht hx
      rcases h with ⟨h1, h2⟩ | ⟨h1, h2⟩
      · exact ⟨[], by rw [h2, e2]⟩
      · obtain ⟨-, t', R', g2⟩ := walk_sound h4 htr d _ _ h1 x h2
        exact ⟨t' :: R', by rw [g2, e2]; simp⟩
    refine ⟨fun t ht => ?_, ?_⟩
    · obtain ⟨L, hL, m, hm, e1, e2, e3⟩ := nk_node h4 htr ha ht
      have hd := at4_down h4 htr ha e3 e2
      have hc := child_seen h4 htr ha e3 e2
      have hz : ¬ (joinN q t).size = 0 := by
        have := tree_nodes (htr L hL) m hm
        rw [e1] at this
        exact this.2
      unfold stepO
      split
      · rename_i hok
        refine List.pairwise_cons.2 ⟨fun x hx => ?_, ?_⟩
        · split at hx
          · obtain ⟨-, t', R', g2⟩ := walk_sound h4 htr d _ _ hd x hx
            have h1 := hc.node hok
            have h2 : (seenS Ls (joinN q t)).told = true := by rw [← hc.told]; exact hok
            rw [h1, seen_path e3 hz h2, g2]
            have := less_app (names (joinN q t)) [] (t' :: R')
            rw [List.append_nil] at this
            rw [this]
            rfl
          · cases hx
        · split
          · exact ih _ _ hd
          · exact List.Pairwise.nil
      · exact List.Pairwise.nil
    · refine List.Pairwise.imp_of_mem (fun {t1 t2} ht1 ht2 hlt => ?_) (namesK_ok Ls q ks).1
      intro x hx y hy
      obtain ⟨R1, e1⟩ := hgrp t1 ht1 x hx
      obtain ⟨R2, e2⟩ := hgrp t2 ht2 y hy
      rw [e1, e2, less_app]
      have hne : t1 ≠ t2 := fun e => by rw [e, lessT_irr] at hlt; cases hlt
      simp only [lessL, if_neg hne]
      exact hlt
theorem go_none : ∀ (ns : List (Option Nd)) (k : Nat) (s : Sg), (goD k s ns).told = true → s.told = true ∨ ∃ n, some n ∈ ns := by
  intro ns
  induction ns with
  | nil => intro k s h; exact .inl h
  | cons x ns ih =>
    intro k s h
    cases x with
    | none =>
      rcases ih _ _ h with h1 | ⟨n, h1⟩
      · exact .inl h1
      · exact .inr ⟨n, List.mem_cons_of_mem _ h1⟩
    | some n => exact .inr ⟨n, List.mem_cons_self⟩
theorem dec_some {ns : List (Option Nd)} (h : (decS ns).told = true) : ∃ n, some n ∈ ns := by
  unfold decS upS at h
  split at h
  · cases h
  · rcases go_none _ _ _ h with h1 | h1
    · cases h1
    · exact h1
theorem ns_which : ∀ (ab : List Bool) (Ls : List (List Nd)) (p : ByteArray) (n : Nd), some n ∈ nsOf ab Ls p → ∃ (k : Nat) (L : List Nd), ab[k]? = some true ∧ Ls[k]? = some L ∧ n ∈ L ∧ n.path = p := by
  intro ab
  induction ab with
  | nil => intro Ls p n h; simp [nsOf] at h
  | cons a ab ih =>
    intro Ls p n h
    cases Ls with
    | nil => simp [nsOf] at h
    | cons L Ls =>
      rw [nsOf] at h
      rcases List.mem_cons.1 h with h | h
      · cases a
        · simp at h
        · simp only [if_true] at h
          have h2 := h.symm
          unfold lk at h2
          exact ⟨0, L, rfl, rfl, List.mem_of_find?_eq_some h2, by simpa using List.find?_some h2⟩
      · obtain ⟨k, M, h1, h2, h3, h5⟩ := ih Ls p n h
        exact ⟨k + 1, M, by simpa using h1, by simpa using h2, h3, h5⟩
theorem parts_mem {ks : List Nat} {k : Nat} (h : (partsB ks)[k]? = some true) : k ∈ ks := by
  unfold partsB at h
  rw [List.getElem?_map] at h
  cases hk : (List.range 4)[k]? with
  | none => rw [hk] at h; simp at h
  | some j =>
    rw [hk] at h
    have hlt := (List.getElem?_eq_some_iff.1 hk).1
    rw [List.length_range] at hlt
    rw [List.getElem?_range hlt] at hk
    cases hk
    simpa using h
/-- A name whose path is told is among the names. -/
theorem name_told {Ls : List (List Nd)} (htr : ∀ L ∈ Ls, treeB L = true) {ks : List Nat} {q p t : ByteArray} (ha : At4 Ls ks q) (hp : pathB p = true) (hn : names p = names q ++ [t]) (ht : (seenS Ls p).told = true) : t ∈ namesK Ls q ks := by
  rw [seen_kid ha.path hp hn, ha.parts] at ht
  obtain ⟨n, h1⟩ := dec_some ht
  obtain ⟨k, L, h2, h3, h5, h6⟩ := ns_which _ _ _ _ h1
  refine ((namesK_ok Ls q ks).2 t).2 ⟨k, parts_mem h2, ?_⟩
  rw [show Ls.getD k [] = L by simp [List.getD, h3]]
  exact kid_of (htr L (List.mem_of_getElem? h3)) h5 (by rw [h6]; exact hn)
theorem walk_app (Ls : List (List Nd)) (s : Sg) (ps qs : List ByteArray) : walkS Ls s (ps ++ qs) = walkS Ls (walkS Ls s ps) qs := by simp [walkS]
theorem seen_rest {Ls : List (List Nd)} {p p1 : ByteArray} {R : List ByteArray} (hp : pathB p = true) (hp1 : pathB p1 = true) (hn : names p = names p1 ++ R) (hR : R ≠ []) : ∃ ps, ps ≠ [] ∧ seenS Ls p = walkS Ls (seenS Ls p1) ps := by
  unfold seenS
  rw [namesR_yes hp, namesR_yes hp1, hn]
  refine ⟨((List.range R.length).map ((names p1).length + ·)).map (fun i => glue ((names p1 ++ R).take (i + 1))), ?_, ?_⟩
  · intro e
    have := congrArg List.length e
    simp at this
    exact hR this
  · rw [← walk_app]
    congr 1
    unfold ways
    rw [List.length_append, List.range_add, List.map_append]
    congr 1
    apply List.map_congr_left
    intro i hi
    have hi2 := List.mem_range.1 hi
    rw [List.take_append_of_le_length (by omega)]
theorem walk_complete {Ls : List (List Nd)} (h4 : Ls.length ≤ 4) (htr : ∀ L ∈ Ls, treeB L = true) : ∀ (R : List ByteArray) (d : Nat) (ks : List Nat) (q p : ByteArray), At4 Ls ks q → pathB p = true → names p = names q ++ R → R ≠ [] → R.length ≤ d → (seenS Ls p).told = true → (seenS Ls p).node ∈ walkO Ls d ks q := by
  intro R
  induction R with
  | nil => intro d ks q p _ _ _ h; exact absurd rfl h
  | cons t R ih =>
    intro d ks q p ha hp hn _ hd ht
    obtain ⟨d, rfl⟩ : ∃ e, d = e + 1 := ⟨d - 1, by simp at hd; omega⟩
    have hall := names_all hp
    have hn1 : names (glue (names q ++ [t])) = names q ++ [t] := names_glue (fun x hx => hall.1 x (by
      rw [hn]
      rcases List.mem_append.1 hx with h | h
      · exact List.mem_append_left _ h
      · simp at h; subst h; simp))
    have hp1 : pathB (glue (names q ++ [t])) = true := pathB_glue (fun x hx => hall.1 x (by
      rw [hn]
      rcases List.mem_append.1 hx with h | h
      · exact List.mem_append_left _ h
      · simp at h; subst h; simp)) (by
        have h1 := hall.2
        rw [hn] at h1
        simp at h1 ⊢
        omega)
    have hj : joinN q t = glue (names q ++ [t]) := rfl
    generalize glue (names q ++ [t]) = p1 at hn1 hp1 hj
    have hc := child_seen h4 htr ha hp1 hn1
    rw [walkO]
    by_cases hR : R = []
    · subst hR
      have e : p = p1 := path_eq (by rw [hn, hn1])
      subst e
      refine List.mem_flatMap.2 ⟨t, name_told htr ha hp1 hn1 ht, ?_⟩
      unfold stepO
      rw [hj]
      have hok : (childO Ls ks p).ok = true := by rw [hc.told]; exact ht
      rw [if_pos hok, ← hc.node hok]
      exact List.mem_cons_self
    · have hn2 : names p = names p1 ++ R := by rw [hn, hn1]; simp
      have hpt : (childO Ls ks p1).parts ≠ [] := fun e => by
        obtain ⟨ps, h1, h2⟩ := seen_rest (Ls := Ls) hp hp1 hn2 hR
        rw [h2, walk_none Ls ps _ (by rw [hc.parts, e]) h1] at ht
        cases ht
      obtain ⟨hok, hk1⟩ := hc.dir hpt
      have ht1 : (seenS Ls p1).told = true := by rw [← hc.told]; exact hok
      refine List.mem_flatMap.2 ⟨t, name_told htr ha hp1 hn1 ht1, ?_⟩
      unfold stepO
      rw [hj, if_pos hok, if_pos hk1]
      refine List.mem_cons_of_mem _ (ih d _ p1 p (at4_down h4 htr ha hp1 hn1) hp hn2 hR (by simp at hd; omega) ht)
theorem at4_root {Ls : List (List Nd)} (h4 : Ls.length ≤ 4) : At4 Ls (List.range Ls.length) ⟨#[]⟩ := by
  have h := right_root (s := ⟨#[]⟩) rfl
  refine ⟨List.Sublist.refl _, h.1, ?_⟩
  have e : seenS Ls ⟨#[]⟩ = rootS Ls.length := by unfold seenS; rw [namesR_yes h.1, h.2]; rfl
  rw [e]
  obtain h | h | h | h | h : Ls.length = 0 ∨ Ls.length = 1 ∨ Ls.length = 2 ∨ Ls.length = 3 ∨ Ls.length = 4 := by omega
  all_goals (rw [h]; decide)
/-- What the specification tells in all. -/
def allO (Ls : List (List Nd)) : List Nd := walkO Ls 7 (List.range Ls.length) ⟨#[]⟩
theorem all_told {Ls : List (List Nd)} (h4 : Ls.length ≤ 4) (htr : ∀ L ∈ Ls, treeB L = true) : AllN Ls (allO Ls) := by
  have ha := at4_root h4
  have hs := walk_sound h4 htr 7 _ _ ha
  refine ⟨List.Pairwise.imp_of_mem (fun {a b} h1 h2 h => ?_) (walk_rise h4 htr 7 _ _ ha), fun n => ⟨fun h => (hs n h).1, fun h => ?_⟩⟩
  · have p1 := (told_path htr (hs a h1).1).2.2.1
    have p2 := (told_path htr (hs b h2).1).2.2.1
    rw [ltP_right p1 p2]
    exact h
  · obtain ⟨t1, t2, t3, t5⟩ := told_path htr h
    have h0 : names (⟨#[]⟩ : ByteArray) = [] := (right_root rfl).2
    have := walk_complete h4 htr (names n.path) 7 _ _ n.path ha t3 (by rw [h0]; rfl) (names_ne t5) (by have := (names_all t3).2; omega) t1
    rw [← t2] at this
    exact this
theorem nodup_le : ∀ (l m : List ByteArray), l.Nodup → (∀ x ∈ l, x ∈ m) → l.length ≤ m.length := by
  intro l
  induction l with
  | nil => intro m _ _; exact Nat.zero_le _
  | cons a l ih =>
    intro m hn hs
    have hn' := List.nodup_cons.1 hn
    have ha := hs a List.mem_cons_self
    obtain ⟨u, v, rfl⟩ := List.append_of_mem ha
    have h1 := ih (u ++ v) hn'.2 (fun x hx => by
      rcases List.mem_append.1 (hs x (List.mem_cons_of_mem _ hx)) with h | h
      · exact List.mem_append_left _ h
      · rcases List.mem_cons.1 h with e | h
        · exact absurd (e ▸ hx) hn'.1
        · exact List.mem_append_right _ h)
    simp only [List.length_append, List.length_cons] at h1 ⊢
    omega
theorem flat_le : ∀ (Ls : List (List Nd)), (∀ L ∈ Ls, treeB L = true) → (Ls.flatMap (fun L => L.map (·.path))).length ≤ 40 * Ls.length := by
  intro Ls
  induction Ls with
  | nil => intro _; exact Nat.le_refl _
  | cons L Ls ih =>
    intro h
    have h1 := ih (fun M hM => h M (List.mem_cons_of_mem _ hM))
    have h2 := h L List.mem_cons_self
    simp only [treeB, Bool.and_eq_true, decide_eq_true_eq] at h2
    rw [List.flatMap_cons, List.length_append, List.length_map, List.length_cons]
    omega
theorem all_len {Ls : List (List Nd)} (h4 : Ls.length ≤ 4) (htr : ∀ L ∈ Ls, treeB L = true) : (allO Ls).length ≤ 160 := by
  have ha := at4_root h4
  have hs := walk_sound h4 htr 7 _ _ ha
  have h1 := nodup_le ((allO Ls).map (·.path)) (Ls.flatMap (fun L => L.map (·.path))) (by
    unfold List.Nodup
    rw [List.pairwise_map]
    exact (walk_rise h4 htr 7 _ _ ha).imp (fun {a b} h e => by rw [e, less_irr] at h; cases h)) (fun x hx => by
    obtain ⟨n, hn, rfl⟩ := List.mem_map.1 hx
    have ht := (hs n hn).1
    obtain ⟨L, hL, m, hm, h5, h6⟩ := ht
    have hw := node_way (htr L hL) hm
    refine List.mem_flatMap.2 ⟨L, hL, List.mem_map.2 ⟨m, hm, ?_⟩⟩
    rw [h6, seen_path hw.1 hw.2 h5])
  have h2 := flat_le Ls htr
  rw [List.length_map] at h1
  omega
end Pl
end Go.Proofs.YtepmojmelcngeaaGreatDoor

