/- Several texts of one claim in one file: PlainSeen, PlainGather. -/
import Derived.Test.YtepmojmelcngeaaGreatDoorG35
import Derived.Test.YtepmojmelcngeaaGreatDoorG27
/- What SeenAt answers. -/
namespace Go.Proofs.YtepmojmelcngeaaGreatDoor
open Go.RowKit
namespace Pl
def seenV (Ls : List (List Nd)) (p : ByteArray) : Value :=
  if 8000 < p.size then .agg #[.string ⟨#[]⟩, .int .i64 0, .string ⟨#[]⟩, .int .i64 0, .int .i64 0, .int .i64 2] else if layB Ls = false ∨ p.size = 0 ∨ pathB p = false then .agg #[.string ⟨#[]⟩, .int .i64 0, .string ⟨#[]⟩, .int .i64 0, .int .i64 0, .int .i64 1] else
    if (seenS Ls p).told = true then .agg #[.string (seenS Ls p).node.path, .int .i64 (seenS Ls p).node.kind, .string (seenS Ls p).node.data, .int .i64 (seenS Ls p).node.time, .int .i64 (seenS Ls p).node.mark, .int .i64 0] else .agg #[.string ⟨#[]⟩, .int .i64 0, .string ⟨#[]⟩, .int .i64 0, .int .i64 0, .int .i64 6]
theorem seen_long {Ls : List (List Nd)} {p : ByteArray} (h : 8000 < p.size) : seenV Ls p = .agg #[.string ⟨#[]⟩, .int .i64 0, .string ⟨#[]⟩, .int .i64 0, .int .i64 0, .int .i64 2] := by rw [seenV, if_pos h]
theorem seen_form {Ls : List (List Nd)} {p : ByteArray} (h : ¬ 8000 < p.size) (h2 : layB Ls = false ∨ p.size = 0 ∨ pathB p = false) : seenV Ls p = .agg #[.string ⟨#[]⟩, .int .i64 0, .string ⟨#[]⟩, .int .i64 0, .int .i64 0, .int .i64 1] := by rw [seenV, if_neg h, if_pos h2]
theorem seen_end {Ls : List (List Nd)} {p : ByteArray} (h : ¬ 8000 < p.size) (h2 : layB Ls = true) (h3 : ¬ p.size = 0) (h4 : pathB p = true) : seenV Ls p = if (seenS Ls p).told = true then .agg #[.string (seenS Ls p).node.path, .int .i64 (seenS Ls p).node.kind, .string (seenS Ls p).node.data, .int .i64 (seenS Ls p).node.time, .int .i64 (seenS Ls p).node.mark, .int .i64 0] else .agg #[.string ⟨#[]⟩, .int .i64 0, .string ⟨#[]⟩, .int .i64 0, .int .i64 0, .int .i64 6] := by
  rw [seenV, if_neg h, if_neg (by simp [h2, h3, h4])]
theorem lay_ok {Ls : List (List Nd)} (h : layB Ls = true) : Ls.length ≤ 4 ∧ ∀ L ∈ Ls, treeB L = true := by
  simp only [layB, Bool.and_eq_true, decide_eq_true_eq, List.all_eq_true] at h
  exact ⟨h.1.2, h.2⟩
/-- A sight whose node is not too long. -/
def smallS (s : Sg) : Prop := s.node.path.size ≤ 1048576 ∧ s.node.data.size ≤ 1048576
def smallN (n : Nd) : Prop := n.path.size ≤ 1048576 ∧ n.data.size ≤ 1048576
theorem zero_small : smallS Sg.zero := ⟨by decide, by decide⟩
theorem take_small {s : Sg} {k : Nat} {n : Nd} (h : smallS s) (hn : smallN n) : smallS (takeS s k n) := by
  unfold smallS takeS markMax
  cases s.told
  · exact hn
  · exact h
theorem go_small : ∀ (ns : List (Option Nd)), (∀ n, some n ∈ ns → smallN n) → ∀ (k : Nat) (s : Sg), smallS s → smallS (goD k s ns) := by
  intro ns
  induction ns with
  | nil => intro _ k s h; exact h
  | cons x ns ih =>
    intro hn k s h
    have hn' : ∀ n, some n ∈ ns → smallN n := fun n hm => hn n (List.mem_cons_of_mem _ hm)
    cases x with
    | none => exact ih hn' _ _ h
    | some n =>
      have h2 := take_small (k := k) h (hn n List.mem_cons_self)
      rw [goD]
      split
      · exact h2
      · exact ih hn' _ _ h2
theorem up_small {s : Sg} (h : smallS s) : smallS (upS s) := by
  unfold upS
  split
  · exact zero_small
  · exact h
theorem ns_mem : ∀ (ab : List Bool) (Ls : List (List Nd)) (p : ByteArray) (n : Nd), some n ∈ nsOf ab Ls p → ∃ L ∈ Ls, n ∈ L := by
  intro ab
  induction ab with
  | nil => intro Ls p n h; simp [nsOf] at h
  | cons a ab ih =>
    intro Ls p n h
    cases Ls with
    | nil => simp [nsOf] at h
    | cons L Ls =>
      rw [nsOf] at h
      rcases List.mem_cons.1 h with h | h
      · cases a
        · simp at h
        · simp only [if_true] at h
          exact ⟨L, List.mem_cons_self, by
            have h2 := h.symm
            unfold lk at h2
            exact List.mem_of_find?_eq_some h2⟩
      · obtain ⟨M, hM, hn⟩ := ih Ls p n h
        exact ⟨M, List.mem_cons_of_mem _ hM, hn⟩
theorem seen_small {Ls : List (List Nd)} (htr : ∀ L ∈ Ls, treeB L = true) (p : ByteArray) : smallS (seenS Ls p) := by
  have hstep : ∀ (s : Sg) (q : ByteArray), smallS (decS (nsOf s.have' Ls q)) := fun s q => by
    apply up_small
    apply go_small
    · intro n hn
      obtain ⟨L, hL, hm⟩ := ns_mem _ _ _ _ hn
      have h1 := htr L hL
      simp only [treeB, Bool.and_eq_true, decide_eq_true_eq] at h1
      have h2 := goI_all L _ _ h1.2 n hm
      have h3 := pathB_le (node_right h2).1
      have h4 := (node_bounds h2).1
      exact ⟨by omega, by omega⟩
    · exact zero_small
  unfold seenS
  generalize ways (namesR p) (namesR p).length = ps
  rcases List.eq_nil_or_concat ps with rfl | ⟨qs, q, rfl⟩
  · exact zero_small
  · rw [List.concat_eq_append, walk_snoc]; exact hstep _ _
end Pl
end Go.Proofs.YtepmojmelcngeaaGreatDoor

/- What is told of layers in all, and a map of it. -/
namespace Go.Proofs.YtepmojmelcngeaaGreatDoor
open Go.RowKit Go.Maps
namespace Pl
theorem go_path (p : ByteArray) : ∀ (ns : List (Option Nd)) (k : Nat) (s : Sg), (∀ n, some n ∈ ns → n.path = p) → (s.told = true → s.node.path = p) → (goD k s ns).told = true → (goD k s ns).node.path = p := by
  intro ns
  induction ns with
  | nil => intro k s _ hs h; exact hs h
  | cons x ns ih =>
    intro k s hn hs h
    have hn' : ∀ n, some n ∈ ns → n.path = p := fun n hm => hn n (List.mem_cons_of_mem _ hm)
    cases x with
    | none => exact ih _ _ hn' hs h
    | some n =>
      have h1 := hn n List.mem_cons_self
      have ht : (takeS s k n).node.path = p := by
        unfold takeS markMax
        cases hst : s.told
        · exact h1
        · exact hs hst
      rw [goD] at h ⊢
      split at h
      · rw [if_pos (by assumption)]; exact ht
      · rw [if_neg (by assumption)]; exact ih _ _ hn' (fun _ => ht) h
theorem dec_path {p : ByteArray} {ns : List (Option Nd)} (hn : ∀ n, some n ∈ ns → n.path = p) (h : (decS ns).told = true) : (decS ns).node.path = p := by
  unfold decS upS at h ⊢
  split at h
  · cases h
  · rw [if_neg (by assumption)]
    exact go_path p ns 0 Sg.zero hn (fun h2 => by cases h2) h
theorem ns_pathS : ∀ (ab : List Bool) (Ls : List (List Nd)) (p : ByteArray) (n : Nd), some n ∈ nsOf ab Ls p → n.path = p := by
  intro ab
  induction ab with
  | nil => intro Ls p n h; simp [nsOf] at h
  | cons a ab ih =>
    intro Ls p n h
    cases Ls with
    | nil => simp [nsOf] at h
    | cons L Ls =>
      rw [nsOf] at h
      rcases List.mem_cons.1 h with h | h
      · cases a
        · simp at h
        · simp only [if_true] at h
          have h2 := h.symm
          unfold lk at h2
          simpa using List.find?_some h2
      · exact ih Ls p n h
theorem names_pos {p : ByteArray} (h : ¬ p.size = 0) : 1 ≤ (names p).length := by
  unfold names
  rw [if_neg h]
  exact cut_pos p
/-- What is seen at a path is decided of what the layers have there. -/
theorem seen_dec {Ls : List (List Nd)} {p : ByteArray} (hp : pathB p = true) (hz : ¬ p.size = 0) : ∃ ab, seenS Ls p = decS (nsOf ab Ls p) := by
  unfold seenS
  rw [namesR_yes hp]
  have h1 := names_pos hz
  obtain ⟨m, hm⟩ : ∃ m, (names p).length = m + 1 := ⟨(names p).length - 1, by omega⟩
  rw [hm, ways_succ, walk_snoc, ← hm, List.take_length, glue_names]
  exact ⟨_, rfl⟩
theorem seen_path {Ls : List (List Nd)} {p : ByteArray} (hp : pathB p = true) (hz : ¬ p.size = 0) (h : (seenS Ls p).told = true) : (seenS Ls p).node.path = p := by
  obtain ⟨ab, e⟩ := seen_dec (Ls := Ls) hp hz
  rw [e] at h ⊢
  exact dec_path (fun n hn => ns_pathS _ _ _ _ hn) h
/-- A node that is told of layers. -/
def ToldN (Ls : List (List Nd)) (n : Nd) : Prop := ∃ L ∈ Ls, ∃ m ∈ L, (seenS Ls m.path).told = true ∧ n = (seenS Ls m.path).node
theorem node_way {L : List Nd} (h : treeB L = true) {m : Nd} (hm : m ∈ L) : pathB m.path = true ∧ ¬ m.path.size = 0 := by
  simp only [treeB, Bool.and_eq_true, decide_eq_true_eq] at h
  have h2 := goI_all L _ _ h.2 m hm
  have h3 := node_right h2
  exact ⟨h3.1, h3.2⟩
theorem told_path {Ls : List (List Nd)} (htr : ∀ L ∈ Ls, treeB L = true) {n : Nd} (h : ToldN Ls n) : (seenS Ls n.path).told = true ∧ n = (seenS Ls n.path).node ∧ pathB n.path = true ∧ ¬ n.path.size = 0 := by
  obtain ⟨L, hL, m, hm, h1, h2⟩ := h
  obtain ⟨h3, h4⟩ := node_way (htr L hL) hm
  have h5 := seen_path h3 h4 h1
  rw [← h2] at h5
  rw [h5]
  exact ⟨h1, h2, h3, h4⟩
theorem told_one {Ls : List (List Nd)} (htr : ∀ L ∈ Ls, treeB L = true) {a b : Nd} (ha : ToldN Ls a) (hb : ToldN Ls b) (e : a.path = b.path) : a = b := by
  rw [(told_path htr ha).2.1, (told_path htr hb).2.1, e]
end Pl
namespace MapN
/-- A map that has some of what is told. -/
structure Gt (Ls : List (List Pl.Nd)) (D : DataW Unit) (C : List Pl.Nd) : Prop where
  reads : Reads D C
  tidy : Tidy D
  apart : C.Pairwise (fun a b => a.path ≠ b.path)
  miss : ∀ p, (∀ m ∈ C, m.path ≠ p) → Maps.has D (key p) = false
  size : Maps.size D = C.length
  sub : ∀ n ∈ C, Pl.ToldN Ls n
theorem Gt.start (Ls : List (List Pl.Nd)) : Gt Ls (.map []) [] :=
  ⟨⟨fun n hn => (by cases hn), fun p c h => by
    exfalso
    have a1 := (h (dat ⟨p, c.kind + 1, p, 0, 0⟩)).symm
    have a2 := dat_inj a1
    have a3 := congrArg Pl.Nd.kind a2
    simp only at a3
    omega⟩, tidy_empty, List.Pairwise.nil, fun _ _ => rfl, rfl, fun n hn => by cases hn⟩
theorem filter_one : ∀ {C : List Pl.Nd} {p : ByteArray} {m : Pl.Nd}, C.Pairwise (fun a b => a.path ≠ b.path) → m ∈ C → m.path = p → (C.filter (fun m => !decide (m.path = p))).length + 1 = C.length := by
  intro C
  induction C with
  | nil => intro p m _ hm; cases hm
  | cons a C ih =>
    intro p m hp hm e
    have hp' := List.pairwise_cons.1 hp
    by_cases ha : a.path = p
    · rw [List.filter_cons_of_neg (by simp [ha]), List.filter_eq_self.2 (fun x hx => by have := hp'.1 x hx; rw [ha] at this; simpa using fun e2 => this e2.symm)]
      rfl
    · rw [List.filter_cons_of_pos (by simp [ha]), List.length_cons, List.length_cons]
      rcases List.mem_cons.1 hm with h1 | h1
      · rw [h1] at e; exact absurd e ha
      · rw [ih hp'.2 h1 e]
def putC (C : List Pl.Nd) (n : Pl.Nd) : List Pl.Nd := C.filter (fun m => !decide (m.path = n.path)) ++ [n]
theorem Gt.put {Ls : List (List Pl.Nd)} {D : DataW Unit} {C : List Pl.Nd} (h : Gt Ls D C) (htr : ∀ L ∈ Ls, Pl.treeB L = true) {n : Pl.Nd} (hn : Pl.ToldN Ls n) : Gt Ls (D.put (key n.path) (dat n)) (putC C n) ∧ ∀ m, m ∈ putC C n ↔ m ∈ C ∨ m = n := by
  have hmem : ∀ m, m ∈ putC C n ↔ m ∈ C ∨ m = n := fun m => by
    unfold putC
    rw [List.mem_append, List.mem_filter]
    constructor
    · rintro (⟨h1, -⟩ | h1)
      · exact .inl h1
      · simp at h1; exact .inr h1
    · rintro (h1 | h1)
      · by_cases e : m.path = n.path
        · exact .inr (by simp; exact Pl.told_one htr (h.sub m h1) hn e)
        · exact .inl ⟨h1, by simpa using e⟩
      · exact .inr (by simp [h1])
  refine ⟨⟨reads_put h.reads h.tidy.isMap n, h.tidy.put (key_is _) _, ?_, fun p hp => ?_, ?_, fun m hm => ?_⟩, hmem⟩
  · unfold putC
    rw [List.pairwise_append]
    refine ⟨h.apart.filter _, List.pairwise_singleton _ _, fun a ha b hb => ?_⟩
    simp at hb
    subst hb
    simpa using (List.mem_filter.1 ha).2
  · have hne : p ≠ n.path := fun e => hp n ((hmem n).2 (.inr rfl)) e.symm
    rw [has_put_other (key_ne hne)]
    exact h.miss p (fun m hm => hp m ((hmem m).2 (.inl hm)))
  · rw [size_put h.tidy]
    unfold putC
    rw [List.length_append]
    by_cases hh : ∃ m ∈ C, m.path = n.path
    · obtain ⟨m, hm, e⟩ := hh
      have h1 := h.reads.has m hm
      rw [e] at h1
      rw [if_pos h1, h.size]
      have hl : (C.filter (fun m => !decide (m.path = n.path))).length + 1 = C.length := filter_one h.apart hm e
      simp; omega
    · have hno : ∀ m ∈ C, m.path ≠ n.path := fun m hm e => hh ⟨m, hm, e⟩
      rw [if_neg (by rw [h.miss _ hno]; simp), h.size, List.filter_eq_self.2 (fun m hm => by simpa using hno m hm)]
      simp
  · rcases (hmem m).1 hm with h1 | h1
    · exact h.sub m h1
    · rw [h1]; exact hn
end MapN
end Go.Proofs.YtepmojmelcngeaaGreatDoor

