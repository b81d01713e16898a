/- Several texts of one claim in one file: PlainR, PlainNode, PlainLess, PlainTree, PlainLaw, PlainBelow, PlainNames. -/
import Derived.Test.YtepmojmelcngeaaGreatDoorG00
import Derived.WalkKit
import Derived.Laws.IdiomStrings
/- The names of a right path; none of another one. No Go in sight. -/
namespace Go.Proofs.YtepmojmelcngeaaGreatDoor
namespace Pl
/-- The names of a right path; none of another one. -/
def namesR (s : ByteArray) : List ByteArray := if pathB s then names s else []
theorem namesR_no {s : ByteArray} (h : pathB s = false) : namesR s = [] := by rw [namesR, h]; rfl
theorem namesR_yes {s : ByteArray} (h : pathB s = true) : namesR s = names s := by rw [namesR, h]; rfl
theorem cut_pos (s : ByteArray) : 0 < (cut s 47).length := by
  have h := cut_list s
  have : (cut s 47).length = (cutL (by_ s)).length := by rw [← h, List.length_map]
  rw [this]
  exact List.length_pos_iff.2 (cutL_ne _)
theorem right_root {s : ByteArray} (h : s.size = 0) : pathB s = true ∧ names s = [] := by
  have h1 : names s = [] := if_pos h
  exact ⟨by simp [pathB_short, h1], h1⟩
theorem cut_length (s : ByteArray) : (cut s 47).length ≤ s.size + 1 := cutF_length s 47 s.size 0 0
theorem cut_size {s : ByteArray} {k : Nat} {t : ByteArray} (h : (cut s 47)[k]? = some t) : t.size ≤ s.size := cutF_size s 47 _ _ _ t (List.mem_of_getElem? h)
theorem namesR_all (s : ByteArray) : (∀ t ∈ namesR s, nameB t = true) ∧ (namesR s).length ≤ 6 := by
  cases h : pathB s
  · rw [namesR_no h]; simp
  · rw [namesR_yes h]; exact pathB_all h
theorem glue_small {L : List ByteArray} (h : ∀ t ∈ L, nameB t = true) (h6 : L.length ≤ 20) : (glue L).size ≤ 1000000 := by
  have := glue_size L (fun t ht => (name_free (h t ht)).2.2.2); omega
theorem all_take {L : List ByteArray} (h : ∀ t ∈ L, nameB t = true) (k : Nat) : ∀ t ∈ L.take k, nameB t = true := fun t ht => h t (List.mem_of_mem_take ht)
theorem all_drop {L : List ByteArray} (h : ∀ t ∈ L, nameB t = true) (k : Nat) : ∀ t ∈ L.drop k, nameB t = true := fun t ht => h t (List.mem_of_mem_drop ht)
/-- Does the list A begin with all of B? -/
def underR (A B : List ByteArray) : Bool := (B.map by_).isPrefixOf (A.map by_)
theorem under_names (p t : ByteArray) : under p t = underR (names p) (names t) := rfl
theorem underR_iff (A B : List ByteArray) : underR A B = true ↔ ∀ (j : Nat) t, B[j]? = some t → A[j]? = some t := by
  unfold underR
  rw [List.isPrefixOf_iff_prefix]
  constructor
  · rintro ⟨R, hR⟩ j t ht
    have h1 : (A.map by_)[j]? = some (by_ t) := by
      rw [← hR, List.getElem?_append_left (by rw [List.length_map]; exact (List.getElem?_eq_some_iff.1 ht).1), List.getElem?_map, ht]; rfl
    rw [List.getElem?_map] at h1
    cases hA : A[j]? with
    | none => rw [hA] at h1; simp at h1
    | some a => rw [hA] at h1; simp at h1; rw [by_inj h1]
  · intro h
    have : B = A.take B.length := by
      apply List.ext_getElem?
      intro j
      by_cases hj : j < B.length
      · rw [List.getElem?_take_of_lt hj, List.getElem?_eq_getElem hj, h j _ (List.getElem?_eq_getElem hj)]
      · rw [List.getElem?_eq_none (by omega), List.getElem?_eq_none (by simp; omega)]
    rw [this, List.map_take]
    exact List.take_prefix _ _
theorem underR_short {A B : List ByteArray} (h : A.length < B.length) : underR A B = false := by
  rw [Bool.eq_false_iff]
  intro h1
  have h2 := (underR_iff A B).1 h1 A.length _ (List.getElem?_eq_getElem h)
  rw [List.getElem?_eq_none (Nat.le_refl _)] at h2; cases h2
theorem underR_not {A B : List ByteArray} {j : Nat} {a b : ByteArray} (ha : A[j]? = some a) (hb : B[j]? = some b) (h : a ≠ b) : underR A B = false := by
  rw [Bool.eq_false_iff]
  intro h1
  have h2 := (underR_iff A B).1 h1 j b hb
  rw [ha] at h2; cases h2; exact h rfl
theorem eq_lists {a b : ByteArray} (h : a = b) : (a.toList == b.toList) = true := by rw [h]; exact beq_self_eq_true _
theorem ne_lists {a b : ByteArray} (h : a ≠ b) : (a.toList == b.toList) = false := by
  rw [beq_eq_false_iff_ne, ByteArray.toList_eq, ByteArray.toList_eq]
  exact fun e => h (by_inj e)
/-- A text and a code, as a TextOut. -/
def tOut (x : ByteArray × Int) : Value := .agg #[.string x.1, .int .i64 0, .int .i64 x.2]
def joinO (p n : ByteArray) : ByteArray × Int :=
  if 8000 < p.size ∨ 8000 < n.size then (⟨#[]⟩, 2) else if ¬ (pathB p = true ∧ nameB n = true) then (⟨#[]⟩, 1) else if (namesR p).length = 6 then (⟨#[]⟩, 9) else (glue (namesR p ++ [n]), 0)
def restO (p t : ByteArray) : ByteArray × Int :=
  if 8000 < p.size ∨ 8000 < t.size then (⟨#[]⟩, 2) else if ¬ (pathB p = true ∧ pathB t = true) then (⟨#[]⟩, 1) else if underR (namesR p) (namesR t) = false then (⟨#[]⟩, 6) else (glue ((namesR p).drop (namesR t).length), 0)
def bothO (t p : ByteArray) : ByteArray × Int :=
  if 8000 < t.size ∨ 8000 < p.size then (⟨#[]⟩, 2) else if ¬ (pathB t = true ∧ pathB p = true) then (⟨#[]⟩, 1) else if 6 < (namesR t).length + (namesR p).length then (⟨#[]⟩, 9) else (glue (namesR t ++ namesR p), 0)
theorem underR_length {A B : List ByteArray} (h : underR A B = true) : B.length ≤ A.length := by
  by_cases hl : A.length < B.length
  · rw [underR_short hl] at h; cases h
  · omega
theorem step_stay {h : List ByteArray} {t : ByteArray} (hd : by_ t = [] ∨ by_ t = [46]) : stepW h t = .ok h := by rw [stepW, if_pos hd]
theorem step_up {h : List ByteArray} {t : ByteArray} (h1 : ¬ (by_ t = [] ∨ by_ t = [46])) (h2 : by_ t = [46, 46]) : stepW h t = .ok h.dropLast := by rw [stepW, if_neg h1, if_pos h2]
theorem step_bad {h : List ByteArray} {t : ByteArray} (h1 : ¬ (by_ t = [] ∨ by_ t = [46])) (h2 : ¬ by_ t = [46, 46]) (h3 : nameB t = false) : stepW h t = .error 3 := by rw [stepW, if_neg h1, if_neg h2, if_pos h3]
theorem step_full {h : List ByteArray} {t : ByteArray} (h1 : ¬ (by_ t = [] ∨ by_ t = [46])) (h2 : ¬ by_ t = [46, 46]) (h3 : ¬ nameB t = false) (h4 : h.length = 6) : stepW h t = .error 9 := by rw [stepW, if_neg h1, if_neg h2, if_neg h3, if_pos h4]
theorem step_into {h : List ByteArray} {t : ByteArray} (h1 : ¬ (by_ t = [] ∨ by_ t = [46])) (h2 : ¬ by_ t = [46, 46]) (h3 : ¬ nameB t = false) (h4 : ¬ h.length = 6) : stepW h t = .ok (h ++ [t]) := by rw [stepW, if_neg h1, if_neg h2, if_neg h3, if_neg h4]
theorem empty_list {t : ByteArray} : t.toList.isEmpty = decide (by_ t = []) := by
  rw [ByteArray.toList_eq]; change (by_ t).isEmpty = _
  cases by_ t <;> simp
theorem list_is {t : ByteArray} {l : List UInt8} : (t.toList == l) = decide (by_ t = l) := by
  rw [ByteArray.toList_eq]; change (by_ t == l) = _
  exact Bool.beq_eq_decide_eq _ _
/-- Does a text begin with a slash? -/
def slashB (s : ByteArray) : Bool := (by_ s).head? == some 47
theorem cut_first {s t : ByteArray} (h : (cut s 47)[0]? = some t) : slashB s = (decide (by_ t = []) && decide (1 < (cut s 47).length)) := by
  have h1 : (cutL (by_ s))[0]? = some (by_ t) := by rw [← cut_list, List.getElem?_map, h]; rfl
  have h2 : (cut s 47).length = (cutL (by_ s)).length := by rw [← cut_list, List.length_map]
  rw [h2]
  unfold slashB
  cases hs : by_ s with
  | nil => rw [hs] at h1; simp [cutL] at h1 ⊢
  | cons b l =>
    rw [hs] at h1
    by_cases hb : b = 47
    · subst hb
      rw [cutL_hit] at h1 ⊢
      have := cutL_ne l
      simp at h1 ⊢
      exact ⟨h1, List.length_pos_iff.2 this⟩
    · obtain ⟨x, r, e⟩ := cutL_ex l
      rw [cutL_miss hb e] at h1 ⊢
      simp at h1 ⊢
      simp [hb, ← h1]
theorem step_all {h h' : List ByteArray} {t : ByteArray} (hs : stepW h t = .ok h') (ha : ∀ u ∈ h, nameB u = true) (hl : h.length ≤ 6) : (∀ u ∈ h', nameB u = true) ∧ h'.length ≤ 6 := by
  unfold stepW at hs
  split at hs
  · cases hs; exact ⟨ha, hl⟩
  split at hs
  · cases hs; exact ⟨fun u hu => ha u (List.dropLast_subset _ hu), by rw [List.length_dropLast]; omega⟩
  split at hs
  · cases hs
  split at hs
  · cases hs
  · cases hs
    rename_i h3 h4
    refine ⟨fun u hu => ?_, by simp; omega⟩
    rcases List.mem_append.1 hu with hu | hu
    · exact ha u hu
    · simp at hu; subst hu; simpa using h3
def start (b t : ByteArray) : List ByteArray := if slashB t then [] else namesR b
def atO (b t : ByteArray) : ByteArray × Int :=
  if 8000 < b.size ∨ 8000 < t.size then (⟨#[]⟩, 2) else if pathB b = false then (⟨#[]⟩, 1) else
    match walkW (start b t) (cut t 47) with
    | .ok h => (glue h, 0)
    | .error c => (⟨#[]⟩, c)
theorem walk_ok {h h' : List ByteArray} {W : List ByteArray} {k : Nat} {t : ByteArray} (hk : W[k]? = some t) (hs : stepW h t = .ok h') : walkW h (W.drop k) = walkW h' (W.drop (k + 1)) := by
  have h1 := (List.getElem?_eq_some_iff.1 hk)
  rw [List.drop_eq_getElem_cons h1.1, walkW, h1.2, hs]
theorem walk_no {h : List ByteArray} {W : List ByteArray} {k : Nat} {t : ByteArray} {c : Int} (hk : W[k]? = some t) (hs : stepW h t = .error c) : walkW h (W.drop k) = .error c := by
  have h1 := (List.getElem?_eq_some_iff.1 hk)
  rw [List.drop_eq_getElem_cons h1.1, walkW, h1.2, hs]
theorem walk_end {h : List ByteArray} (W : List ByteArray) : walkW h (W.drop W.length) = .ok h := by rw [List.drop_length, walkW]
end Pl
end Go.Proofs.YtepmojmelcngeaaGreatDoor

/- Nodes, and whether they are right. No program in sight but its values. -/
namespace Go.Proofs.YtepmojmelcngeaaGreatDoor
namespace Pl
structure Nd where
  path : ByteArray
  kind : Int
  data : ByteArray
  time : Int
  mark : Int
def Nd.cells (n : Nd) : List Value := [.string n.path, .int .i64 n.kind, .string n.data, .int .i64 n.time, .int .i64 n.mark]
def Nd.val (n : Nd) : Value := .agg #[.string n.path, .int .i64 n.kind, .string n.data, .int .i64 n.time, .int .i64 n.mark]
def kindB (n : Nd) : Bool :=
  if n.kind = 0 then decide (n.data.size = 0) && decide (n.time = 0) && decide (1 ≤ n.mark)
  else if n.kind = 1 then decide (n.data.size = 0)
  else if n.kind = 2 then decide (n.mark = 0) else false
def nodeB (n : Nd) : Bool := decide (n.path.size ≠ 0) && pathB n.path && decide (n.data.size ≤ 60) && decide (0 ≤ n.time ∧ n.time ≤ 1000000) && decide (0 ≤ n.mark ∧ n.mark ≤ 8) && kindB n
theorem node_root {n : Nd} (h : n.path.size = 0) : nodeB n = false := by simp [nodeB, h]
theorem node_path {n : Nd} (h : pathB n.path = false) : nodeB n = false := by simp [nodeB, h]
theorem node_data {n : Nd} (h : 60 < n.data.size) : nodeB n = false := by
  have : decide (n.data.size ≤ 60) = false := by simp; omega
  simp [nodeB, this]
theorem node_time {n : Nd} (h : ¬ (0 ≤ n.time ∧ n.time ≤ 1000000)) : nodeB n = false := by
  have : decide (0 ≤ n.time ∧ n.time ≤ 1000000) = false := by simpa using h
  unfold nodeB; rw [this]; simp
theorem node_mark {n : Nd} (h : ¬ (0 ≤ n.mark ∧ n.mark ≤ 8)) : nodeB n = false := by
  have : decide (0 ≤ n.mark ∧ n.mark ≤ 8) = false := by simpa using h
  unfold nodeB; rw [this]; simp
theorem node_kind {n : Nd} (h0 : n.path.size ≠ 0) (h1 : pathB n.path = true) (h2 : n.data.size ≤ 60) (h3 : 0 ≤ n.time ∧ n.time ≤ 1000000) (h4 : 0 ≤ n.mark ∧ n.mark ≤ 8) : nodeB n = kindB n := by
  have e3 : decide (0 ≤ n.time ∧ n.time ≤ 1000000) = true := by simpa using h3
  have e4 : decide (0 ≤ n.mark ∧ n.mark ≤ 8) = true := by simpa using h4
  unfold nodeB; rw [e3, e4]; simp [h0, h1, h2]
/-- What a node has in it, whatever its path is. -/
def contB (n : Nd) : Bool := decide (n.data.size ≤ 60) && decide (0 ≤ n.time ∧ n.time ≤ 1000000) && decide (0 ≤ n.mark ∧ n.mark ≤ 8) && kindB n
theorem cont_data {n : Nd} (h : 60 < n.data.size) : contB n = false := by
  have : decide (n.data.size ≤ 60) = false := by simp; omega
  simp [contB, this]
theorem cont_time {n : Nd} (h : ¬ (0 ≤ n.time ∧ n.time ≤ 1000000)) : contB n = false := by
  have : decide (0 ≤ n.time ∧ n.time ≤ 1000000) = false := by simpa using h
  unfold contB; rw [this]; simp
theorem cont_mark {n : Nd} (h : ¬ (0 ≤ n.mark ∧ n.mark ≤ 8)) : contB n = false := by
  have : decide (0 ≤ n.mark ∧ n.mark ≤ 8) = false := by simpa using h
  unfold contB; rw [this]; simp
theorem cont_kind {n : Nd} (h2 : n.data.size ≤ 60) (h3 : 0 ≤ n.time ∧ n.time ≤ 1000000) (h4 : 0 ≤ n.mark ∧ n.mark ≤ 8) : contB n = kindB n := by
  have e3 : decide (0 ≤ n.time ∧ n.time ≤ 1000000) = true := by simpa using h3
  have e4 : decide (0 ≤ n.mark ∧ n.mark ≤ 8) = true := by simpa using h4
  unfold contB; rw [e3, e4]; simp [h2]
theorem node_cont {n : Nd} (h0 : n.path.size ≠ 0) (h1 : pathB n.path = true) : nodeB n = contB n := by
  unfold nodeB contB; simp [h0, h1, Bool.and_assoc]
end Pl
end Go.Proofs.YtepmojmelcngeaaGreatDoor

/- Which of two lists of names is ahead. No program in sight. -/
namespace Go.Proofs.YtepmojmelcngeaaGreatDoor
namespace Pl
def lessL : List ByteArray → List ByteArray → Bool
  | [], [] => false
  | [], _ :: _ => true
  | _ :: _, [] => false
  | a :: A, b :: B => if a = b then lessL A B else Op.bytesLess a.toList b.toList
theorem less_same {A B : List ByteArray} {k : Nat} {a b : ByteArray} (ha : A[k]? = some a) (hb : B[k]? = some b) (h : a = b) : lessL (A.drop k) (B.drop k) = lessL (A.drop (k + 1)) (B.drop (k + 1)) := by
  have h1 := (List.getElem?_eq_some_iff.1 ha)
  have h2 := (List.getElem?_eq_some_iff.1 hb)
  rw [List.drop_eq_getElem_cons h1.1, List.drop_eq_getElem_cons h2.1, lessL, if_pos (by rw [h1.2, h2.2]; exact h)]
theorem less_other {A B : List ByteArray} {k : Nat} {a b : ByteArray} (ha : A[k]? = some a) (hb : B[k]? = some b) (h : a ≠ b) : lessL (A.drop k) (B.drop k) = Op.bytesLess a.toList b.toList := by
  have h1 := (List.getElem?_eq_some_iff.1 ha)
  have h2 := (List.getElem?_eq_some_iff.1 hb)
  rw [List.drop_eq_getElem_cons h1.1, List.drop_eq_getElem_cons h2.1, lessL, if_neg (by rw [h1.2, h2.2]; exact h), h1.2, h2.2]
theorem less_end {A B : List ByteArray} {k : Nat} (h : k = A.length ∧ k ≤ B.length ∨ k = B.length ∧ k ≤ A.length) : lessL (A.drop k) (B.drop k) = decide (A.length < B.length) := by
  rcases h with ⟨rfl, h⟩ | ⟨rfl, h⟩
  · rw [List.drop_length]
    by_cases hl : A.length < B.length
    · rw [List.drop_eq_getElem_cons hl]; simp [lessL, hl]
    · rw [List.drop_of_length_le (by omega)]; simp [lessL, hl]
  · rw [List.drop_length]
    have hn : ¬ A.length < B.length := by omega
    by_cases hl : B.length < A.length
    · rw [List.drop_eq_getElem_cons hl]; simp [lessL, hn]
    · rw [List.drop_of_length_le (by omega)]; simp [lessL, hn]
end Pl
end Go.Proofs.YtepmojmelcngeaaGreatDoor

/- Right trees: as the program goes through the nodes, and as the specification does. No program in sight. -/
namespace Go.Proofs.YtepmojmelcngeaaGreatDoor
namespace Pl
theorem bytes_trans : ∀ a b c : List UInt8, Op.bytesLess a b = true → Op.bytesLess b c = true → Op.bytesLess a c = true := by
  intro a
  induction a with
  | nil =>
    intro b c h1 h2
    cases c with
    | nil => cases b <;> simp [Op.bytesLess] at h2
    | cons z c => rfl
  | cons x a ih =>
    intro b c h1 h2
    cases b with
    | nil => simp [Op.bytesLess] at h1
    | cons y b =>
      cases c with
      | nil => simp [Op.bytesLess] at h2
      | cons z c =>
        simp only [Op.bytesLess, Bool.or_eq_true, decide_eq_true_eq, Bool.and_eq_true, beq_iff_eq] at h1 h2 ⊢
        rcases h1 with h1 | ⟨rfl, h1⟩
        · rcases h2 with h2 | ⟨rfl, h2⟩
          · left; rw [UInt8.lt_iff_toNat_lt] at h1 h2 ⊢; omega
          · left; exact h1
        · rcases h2 with h2 | ⟨rfl, h2⟩
          · left; exact h2
          · right; exact ⟨rfl, ih b c h1 h2⟩
theorem bytes_irr : ∀ a : List UInt8, Op.bytesLess a a = false := by
  intro a
  induction a with
  | nil => rfl
  | cons x a ih => simp [Op.bytesLess, ih]
theorem less_trans : ∀ A B C : List ByteArray, lessL A B = true → lessL B C = true → lessL A C = true := by
  intro A
  induction A with
  | nil =>
    intro B C h1 h2
    cases C with
    | nil => cases B <;> simp [lessL] at h2
    | cons c C => rfl
  | cons a A ih =>
    intro B C h1 h2
    cases B with
    | nil => simp [lessL] at h1
    | cons b B =>
      cases C with
      | nil => simp [lessL] at h2
      | cons c C =>
        rw [lessL] at h1 h2 ⊢
        by_cases hab : a = b
        · subst hab
          rw [if_pos rfl] at h1
          by_cases hac : a = c
          · subst hac
            rw [if_pos rfl] at h2 ⊢
            exact ih B C h1 h2
          · rw [if_neg hac] at h2 ⊢; exact h2
        · rw [if_neg hab] at h1
          by_cases hbc : b = c
          · subst hbc
            rw [if_neg hab]; exact h1
          · rw [if_neg hbc] at h2
            have h3 := bytes_trans _ _ _ h1 h2
            by_cases hac : a = c
            · subst hac; rw [bytes_irr] at h3; cases h3
            · rw [if_neg hac]; exact h3
theorem less_irr : ∀ A : List ByteArray, lessL A A = false := by
  intro A
  induction A with
  | nil => rfl
  | cons a A ih => rw [lessL, if_pos rfl, ih]
theorem less_drop : ∀ A : List ByteArray, A ≠ [] → lessL A.dropLast A = true := by
  intro A h
  have h1 : A.dropLast ++ [A.getLast h] = A := List.dropLast_concat_getLast h
  have h2 : ∀ (B : List ByteArray) (x : ByteArray), lessL B (B ++ [x]) = true := by
    intro B x
    induction B with
    | nil => rfl
    | cons b B ih => rw [List.cons_append, lessL, if_pos rfl]; exact ih
  have h3 := h2 A.dropLast (A.getLast h)
  rw [h1] at h3; exact h3
/-- Which of two right paths is ahead; the parent of a right path. -/
def ltP (a b : ByteArray) : Bool := pathB a && pathB b && lessL (namesR a) (namesR b)
def parentP (p : ByteArray) : ByteArray := glue (namesR p).dropLast
def parI (C : List Nd) (p : ByteArray) : Bool := decide ((parentP p).size = 0) || C.any (fun m => decide (m.path = parentP p) && decide (m.kind = 1))
def goI (C : List Nd) (last : ByteArray) : List Nd → Bool
  | [] => true
  | n :: r => nodeB n && ltP last n.path && parI C n.path && goI (C ++ [n]) n.path r
def treeB (L : List Nd) : Bool := decide (L.length ≤ 40) && goI [] ⟨#[]⟩ L
def dirS (L : List Nd) (p : ByteArray) : Bool := decide (p.size = 0) || (match L.find? (fun m => decide (m.path = p)) with | some m => decide (m.kind = 1) | none => false)
def prevB (prev : Option ByteArray) (p : ByteArray) : Bool := match prev with | none => true | some q => lessL (names q) (names p)
def goS (L : List Nd) (prev : Option ByteArray) : List Nd → Bool
  | [] => true
  | n :: r => nodeB n && prevB prev n.path && dirS L (parent n.path) && goS L (some n.path) r
theorem node_right {n : Nd} (h : nodeB n = true) : pathB n.path = true ∧ n.path.size ≠ 0 := by
  unfold nodeB at h
  simp only [Bool.and_eq_true, decide_eq_true_eq] at h
  exact ⟨h.1.1.1.1.2, h.1.1.1.1.1⟩
theorem node_bounds {n : Nd} (h : nodeB n = true) : n.data.size ≤ 60 ∧ (0 ≤ n.time ∧ n.time ≤ 1000000) ∧ (0 ≤ n.mark ∧ n.mark ≤ 8) ∧ kindB n = true := by
  unfold nodeB at h
  simp only [Bool.and_eq_true, decide_eq_true_eq] at h
  exact ⟨h.1.1.1.2, h.1.1.2, h.1.2, h.2⟩
theorem pathB_le {p : ByteArray} (h : pathB p = true) : p.size ≤ 200 := by
  unfold pathB at h
  simp only [Bool.and_eq_true, decide_eq_true_eq] at h
  exact h.1.1
theorem names_ne {p : ByteArray} (h : p.size ≠ 0) : names p ≠ [] := by
  intro e
  have := names_list p
  rw [e] at this
  simp only [List.map_nil, namesL] at this
  split at this
  · next h1 => rw [by_nil] at h1; exact h h1
  · exact cutL_ne _ this.symm
theorem parent_right {p : ByteArray} (h : pathB p = true) : parent p = parentP p := by rw [parent_glue, parentP, namesR_yes h]
theorem parent_names {p : ByteArray} (h : pathB p = true) : names (parentP p) = (names p).dropLast := by
  rw [parentP, namesR_yes h]
  exact names_glue (fun t ht => (pathB_all h).1 t (List.dropLast_subset _ ht))
theorem ltP_right {a b : ByteArray} (ha : pathB a = true) (hb : pathB b = true) : ltP a b = lessL (names a) (names b) := by rw [ltP, ha, hb, namesR_yes ha, namesR_yes hb]; rfl
theorem path_eq {a b : ByteArray} (h : names a = names b) : a = b := by rw [← glue_names a, ← glue_names b, h]
theorem rise (L : List Nd) : ∀ (r : List Nd) (q : ByteArray), goS L (some q) r = true → ∀ m ∈ r, lessL (names q) (names m.path) = true := by
  intro r
  induction r with
  | nil => intro q _ m hm; cases hm
  | cons n r ih =>
    intro q h m hm
    simp only [goS, Bool.and_eq_true] at h
    rcases List.mem_cons.1 hm with rfl | hm
    · exact h.1.1.2
    · exact less_trans _ _ _ h.1.1.2 (ih n.path h.2 m hm)
theorem find_app {α : Type} {f : α → Bool} (A B : List α) : (A ++ B).find? f = match A.find? f with | some x => some x | none => B.find? f := by
  rw [List.find?_append]; cases A.find? f <;> rfl
theorem one_path {C : List Nd} (h : C.Pairwise (fun a b => lessL (names a.path) (names b.path) = true)) {a b : Nd} (ha : a ∈ C) (hb : b ∈ C) (e : a.path = b.path) : a = b := by
  induction h with
  | nil => cases ha
  | cons hx _ ih =>
    rcases List.mem_cons.1 ha with e1 | h1
    · rcases List.mem_cons.1 hb with e2 | h2
      · rw [e1, e2]
      · have h3 := hx _ h2; rw [← e1, e, less_irr] at h3; cases h3
    · rcases List.mem_cons.1 hb with e2 | h2
      · have h3 := hx _ h1; rw [← e2, e, less_irr] at h3; cases h3
      · exact ih h1 h2
theorem go_same (L : List Nd) : ∀ (r C : List Nd) (prev : Option ByteArray) (last : ByteArray), L = C ++ r → (prev = none ∧ C = [] ∧ last = ⟨#[]⟩ ∨ prev = some last ∧ pathB last = true) →
    C.Pairwise (fun a b => lessL (names a.path) (names b.path) = true) → (∀ a ∈ C, a.path = last ∨ lessL (names a.path) (names last) = true) → goS L prev r = goI C last r := by
  intro r
  induction r with
  | nil => intros; rfl
  | cons n r ih =>
    intro C prev last hL hprev hC hlast
    simp only [goS, goI]
    cases hn : nodeB n
    · simp
    obtain ⟨hr, h0⟩ := node_right hn
    have hlt : prevB prev n.path = ltP last n.path := by
      rcases hprev with ⟨rfl, rfl, rfl⟩ | ⟨rfl, hl⟩
      · have e1 : pathB (⟨#[]⟩ : ByteArray) = true := (right_root rfl).1
        have e2 : names (⟨#[]⟩ : ByteArray) = [] := (right_root rfl).2
        rw [ltP_right e1 hr, e2]
        cases hx : names n.path with
        | nil => exact absurd hx (names_ne h0)
        | cons a l => rfl
      · rw [ltP_right hl hr]; rfl
    rw [hlt]
    cases hlt2 : ltP last n.path
    · simp
    simp only [Bool.true_and, parent_right hr]
    have hall : ∀ a ∈ C, lessL (names a.path) (names n.path) = true := by
      intro a ha
      rcases hprev with ⟨_, rfl, _⟩ | ⟨_, hl⟩
      · cases ha
      · rw [ltP_right hl hr] at hlt2
        rcases hlast a ha with e | e
        · rw [e]; exact hlt2
        · exact less_trans _ _ _ e hlt2
    have hC2 : (C ++ [n]).Pairwise (fun a b => lessL (names a.path) (names b.path) = true) := by
      rw [List.pairwise_append]
      exact ⟨hC, List.pairwise_singleton _ _, fun a ha b hb => by simp at hb; subst hb; exact hall a ha⟩
    have hrest : goS L (some n.path) r = goI (C ++ [n]) n.path r := by
      refine ih (C ++ [n]) (some n.path) n.path (by rw [hL]; simp) (.inr ⟨rfl, hr⟩) hC2 ?_
      intro a ha
      rcases List.mem_append.1 ha with ha | ha
      · exact .inr (hall a ha)
      · simp at ha; subst ha; exact .inl rfl
    by_cases hp : (parentP n.path).size = 0
    · have e1 : dirS L (parentP n.path) = true := by simp [dirS, hp]
      have e2 : parI C n.path = true := by simp [parI, hp]
      rw [e1, e2, hrest]
    cases hpar : parI C n.path
    · have e1 : (dirS L (parentP n.path) && goS L (some n.path) r) = false := by
        rw [Bool.eq_false_iff]
        intro h
        simp only [Bool.and_eq_true] at h
        have hd := h.1
        simp only [dirS, hp, decide_false, Bool.false_or] at hd
        rw [hL, find_app] at hd
        have hCn : C.find? (fun m => decide (m.path = parentP n.path)) = none ∨ ∃ m, C.find? (fun m => decide (m.path = parentP n.path)) = some m := by
          cases C.find? (fun m => decide (m.path = parentP n.path)) with
          | none => exact .inl rfl
          | some m => exact .inr ⟨m, rfl⟩
        rcases hCn with hCn | ⟨m, hm⟩
        · rw [hCn] at hd
          cases hf : (n :: r).find? (fun m => decide (m.path = parentP n.path)) with
          | none => rw [hf] at hd; simp at hd
          | some m =>
            have hm1 := List.mem_of_find?_eq_some hf
            have hm2 : m.path = parentP n.path := by simpa using List.find?_some hf
            have hless : lessL (names m.path) (names n.path) = true := by
              rw [hm2, parent_names hr]; exact less_drop _ (names_ne h0)
            rcases List.mem_cons.1 hm1 with rfl | hm1
            · rw [less_irr] at hless; cases hless
            · have h3 := rise L r n.path h.2 m hm1
              have h4 := less_trans _ _ _ hless h3
              rw [less_irr] at h4; cases h4
        · rw [hm] at hd
          have hm1 := List.mem_of_find?_eq_some hm
          have hm2 : m.path = parentP n.path := by simpa using List.find?_some hm
          have : parI C n.path = true := by
            simp only [parI, Bool.or_eq_true, List.any_eq_true]
            exact .inr ⟨m, hm1, by simpa [hm2] using hd⟩
          rw [hpar] at this; cases this
      rw [e1]; simp
    · have e1 : dirS L (parentP n.path) = true := by
        simp only [parI, hp, decide_false, Bool.false_or, List.any_eq_true, Bool.and_eq_true, decide_eq_true_eq] at hpar
        obtain ⟨m, hm, hm2, hm3⟩ := hpar
        have hfind : C.find? (fun m => decide (m.path = parentP n.path)) = some m := by
          cases hf : C.find? (fun m => decide (m.path = parentP n.path)) with
          | none =>
            have := List.find?_eq_none.1 hf m hm
            simp [hm2] at this
          | some x =>
            have hx1 := List.mem_of_find?_eq_some hf
            have hx2 : x.path = parentP n.path := by simpa using List.find?_some hf
            rw [one_path hC hx1 hm (hx2.trans hm2.symm)]
        simp only [dirS, hp, decide_false, Bool.false_or]
        rw [hL, find_app, hfind]
        simpa using hm3
      rw [e1, hrest]
theorem tree_same (L : List Nd) : goS L none L = goI [] ⟨#[]⟩ L :=
  go_same L L [] none ⟨#[]⟩ rfl (.inl ⟨rfl, rfl, rfl⟩) List.Pairwise.nil (fun a ha => by cases ha)
/-- What a right tree's nodes are. -/
theorem goI_all : ∀ (r C : List Nd) (last : ByteArray), goI C last r = true → ∀ n ∈ r, nodeB n = true := by
  intro r
  induction r with
  | nil => intro C last _ n hn; cases hn
  | cons m r ih =>
    intro C last h n hn
    simp only [goI, Bool.and_eq_true] at h
    rcases List.mem_cons.1 hn with rfl | hn
    · exact h.1.1.1
    · exact ih _ _ h.2 n hn
theorem goI_rise : ∀ (r C : List Nd) (last : ByteArray), goI C last r = true → pathB last = true → r.Pairwise (fun a b => lessL (names a.path) (names b.path) = true) ∧ ∀ n ∈ r, lessL (names last) (names n.path) = true := by
  intro r
  induction r with
  | nil => intro C last _ _; exact ⟨List.Pairwise.nil, fun n hn => by cases hn⟩
  | cons m r ih =>
    intro C last h hl
    simp only [goI, Bool.and_eq_true] at h
    obtain ⟨hr, h0⟩ := node_right h.1.1.1
    obtain ⟨i1, i2⟩ := ih _ _ h.2 hr
    have h1 := h.1.1.2
    rw [ltP_right hl hr] at h1
    refine ⟨List.Pairwise.cons (fun n hn => i2 n hn) i1, fun n hn => ?_⟩
    rcases List.mem_cons.1 hn with rfl | hn
    · exact h1
    · exact less_trans _ _ _ h1 (i2 n hn)
end Pl
end Go.Proofs.YtepmojmelcngeaaGreatDoor

/- What the laws of chapter 3 ask of paths. No program in sight. -/
namespace Go.Proofs.YtepmojmelcngeaaGreatDoor
namespace Pl
theorem bytesLess_anti : ∀ a b : List UInt8, a ≠ b → Op.bytesLess a b = !Op.bytesLess b a := by
  intro a
  induction a with
  | nil => intro b h; cases b with
    | nil => exact absurd rfl h
    | cons c b => rfl
  | cons x a ih =>
    intro b h
    cases b with
    | nil => rfl
    | cons y b =>
      simp only [Op.bytesLess]
      by_cases hxy : x = y
      · subst hxy
        have hab : a ≠ b := fun e => h (by rw [e])
        rw [ih b hab]; simp
      · have h1 : (x == y) = false := by simpa using hxy
        have h2 : (y == x) = false := by simpa using fun e : y = x => hxy e.symm
        rw [h1, h2]
        simp only [Bool.false_and, Bool.or_false]
        by_cases hlt : x < y
        · have : ¬ y < x := by rw [UInt8.lt_iff_toNat_lt] at hlt ⊢; omega
          simp [hlt, this]
        · have : y < x := by
            rw [UInt8.lt_iff_toNat_lt] at hlt ⊢
            have : x.toNat ≠ y.toNat := fun e => hxy (UInt8.toNat_inj.1 e)
            omega
          simp [hlt, this]
theorem less_anti : ∀ A B : List ByteArray, A ≠ B → lessL A B = !lessL B A := by
  intro A
  induction A with
  | nil => intro B h; cases B with
    | nil => exact absurd rfl h
    | cons b B => rfl
  | cons a A ih =>
    intro B h
    cases B with
    | nil => rfl
    | cons b B =>
      rw [lessL, lessL]
      by_cases hab : a = b
      · subst hab
        rw [if_pos rfl, if_pos rfl]
        exact ih B (fun e => h (by rw [e]))
      · rw [if_neg hab, if_neg (fun e => hab e.symm)]
        refine bytesLess_anti _ _ ?_
        rw [ByteArray.toList_eq, ByteArray.toList_eq]
        exact fun e => hab (by_inj e)
theorem less_under : ∀ A B : List ByteArray, (∀ (j : Nat) t, B[j]? = some t → A[j]? = some t) → lessL A B = false := by
  intro A
  induction A with
  | nil => intro B h; cases B with
    | nil => rfl
    | cons b B => have := h 0 b rfl; cases this
  | cons a A ih =>
    intro B h
    cases B with
    | nil => rfl
    | cons b B =>
      have h0 := h 0 b rfl
      simp at h0
      subst h0
      rw [lessL, if_pos rfl]
      exact ih B (fun j t ht => by have := h (j + 1) t (by simpa using ht); simpa using this)
theorem less_more : ∀ (A : List ByteArray) (n : ByteArray), lessL A (A ++ [n]) = true := by
  intro A n
  induction A with
  | nil => rfl
  | cons a A ih => rw [List.cons_append, lessL, if_pos rfl]; exact ih
theorem glue_namesR {p : ByteArray} (h : pathB p = true) : glue (namesR p) = p := by rw [namesR_yes h, glue_names]
theorem namesR_glue {L : List ByteArray} (h : ∀ t ∈ L, nameB t = true) (h6 : L.length ≤ 6) : namesR (glue L) = L := by
  rw [namesR_yes (pathB_glue h h6), names_glue h]
theorem glue_one (n : ByteArray) : glue [n] = n := by apply by_inj; rw [by_glue]; rfl
theorem path_inj {a b : ByteArray} (ha : pathB a = true) (hb : pathB b = true) (h : namesR a = namesR b) : a = b := by
  rw [← glue_namesR ha, ← glue_namesR hb, h]
theorem under_self (A B : List ByteArray) : underR (A ++ B) A = true := by
  rw [underR_iff]
  intro j t ht
  rw [List.getElem?_append_left (List.getElem?_eq_some_iff.1 ht).1]; exact ht
/-- FnPath: what is joined. -/
theorem join_ok {p n : ByteArray} (h : (joinO p n).2 = 0) : pathB p = true ∧ nameB n = true ∧ (namesR p).length ≤ 5 ∧ (joinO p n).1 = glue (namesR p ++ [n]) := by
  unfold joinO at h ⊢
  split at h
  · cases h
  split at h
  · cases h
  split at h
  · cases h
  rename_i h1 h2 h3
  rw [if_neg h1, if_neg h2, if_neg h3]
  have h4 : pathB p = true ∧ nameB n = true := Classical.byContradiction (fun e => h2 e)
  have := (namesR_all p).2
  exact ⟨h4.1, h4.2, by omega, rfl⟩
theorem join_law {p n : ByteArray} (h : (joinO p n).2 = 0) :
    glue (namesR (joinO p n).1).dropLast = p ∧ glue ((namesR (joinO p n).1).drop ((namesR (joinO p n).1).length - 1)) = n ∧
    (pathB (joinO p n).1 && pathB p && underR (namesR (joinO p n).1) (namesR p)) = true ∧ (pathB p && pathB (joinO p n).1 && lessL (namesR p) (namesR (joinO p n).1)) = true ∧ (joinO p n).1.size ≤ 1000 := by
  obtain ⟨h1, h2, h3, h4⟩ := join_ok h
  have ha : ∀ t ∈ namesR p ++ [n], nameB t = true := by
    intro t ht
    rcases List.mem_append.1 ht with ht | ht
    · exact (namesR_all p).1 t ht
    · simp at ht; subst ht; exact h2
  have hl : (namesR p ++ [n]).length ≤ 6 := by rw [List.length_append]; simp; omega
  have e1 := namesR_glue ha hl
  have e2 := pathB_glue ha hl
  have e3 := glue_size (namesR p ++ [n]) (fun t ht => (name_free (ha t ht)).2.2.2)
  rw [h4, e1, e2, h1]
  refine ⟨by rw [List.dropLast_concat]; exact glue_namesR h1, ?_, by rw [under_self]; rfl, by rw [less_more]; rfl, by omega⟩
  have : (namesR p ++ [n]).length - 1 = (namesR p).length := by rw [List.length_append]; simp
  rw [this, List.drop_left]; exact glue_one n
theorem join_size (p n : ByteArray) : (joinO p n).1.size ≤ 1000 := by
  by_cases h : (joinO p n).2 = 0
  · exact (join_law h).2.2.2.2
  · unfold joinO at h ⊢
    split
    · exact Nat.zero_le _
    split
    · exact Nat.zero_le _
    split
    · exact Nat.zero_le _
    · rename_i h1 h2 h3; rw [if_neg h1, if_neg h2, if_neg h3] at h; exact absurd rfl h
theorem under_less (u t : ByteArray) : (pathB u && pathB t && underR (namesR u) (namesR t)) = true → (pathB u && pathB t && lessL (namesR u) (namesR t)) = false := by
  intro h
  simp only [Bool.and_eq_true] at h
  rw [less_under _ _ ((underR_iff _ _).1 h.2)]; simp
theorem two_less {a b : ByteArray} (ha : pathB a = true) (hb : pathB b = true) (h : a ≠ b) : (pathB a && pathB b && lessL (namesR a) (namesR b)) = !(pathB b && pathB a && lessL (namesR b) (namesR a)) := by
  rw [ha, hb, Bool.true_and, Bool.true_and, Bool.true_and]
  exact less_anti _ _ (fun e => h (path_inj ha hb e))
/-- FnRest. -/
theorem rest_ok {p t : ByteArray} (hp : p.size ≤ 100) (ht : t.size ≤ 100) : ((restO p t).2 = 0 ↔ (pathB p && pathB t && underR (namesR p) (namesR t)) = true) := by
  unfold restO
  rw [if_neg (by omega)]
  by_cases h1 : pathB p = true ∧ pathB t = true
  · rw [if_neg (by simpa using h1), h1.1, h1.2]
    cases h2 : underR (namesR p) (namesR t)
    · rw [if_pos rfl]; simp
    · rw [if_neg (by simp)]; simp
  · rw [if_pos h1]
    constructor
    · intro h; cases h
    · intro h
      simp only [Bool.and_eq_true] at h
      exact absurd h.1 h1
theorem rest_law {p t : ByteArray} (hp : p.size ≤ 100) (ht : t.size ≤ 100) (h : (restO p t).2 = 0) : bothO t (restO p t).1 = (p, 0) ∧ (restO p t).1.size ≤ 1000 := by
  have hu := (rest_ok hp ht).1 h
  simp only [Bool.and_eq_true] at hu
  obtain ⟨⟨h1, h2⟩, h3⟩ := hu
  have e : (restO p t).1 = glue ((namesR p).drop (namesR t).length) := by
    unfold restO
    rw [if_neg (by omega), if_neg (by simp [h1, h2]), if_neg (by simp [h3])]
  rw [e]
  have ha : ∀ u ∈ (namesR p).drop (namesR t).length, nameB u = true := all_drop (namesR_all p).1 _
  have hl : ((namesR p).drop (namesR t).length).length ≤ 6 := by have := (namesR_all p).2; rw [List.length_drop]; omega
  have e1 := namesR_glue ha hl
  have e2 := pathB_glue ha hl
  have e3 := glue_size _ (fun u hu => (name_free (ha u hu)).2.2.2)
  have hle := underR_length h3
  have hcat : namesR t ++ (namesR p).drop (namesR t).length = namesR p := by
    have : namesR t = (namesR p).take (namesR t).length := by
      apply List.ext_getElem?
      intro j
      by_cases hj : j < (namesR t).length
      · rw [List.getElem?_take_of_lt hj, List.getElem?_eq_getElem hj, (underR_iff _ _).1 h3 j _ (List.getElem?_eq_getElem hj)]
      · rw [List.getElem?_eq_none (by omega), List.getElem?_eq_none (by simp; omega)]
    conv => lhs; lhs; rw [this]
    rw [List.take_append_drop]
  refine ⟨?_, by omega⟩
  unfold bothO
  have h6 := (namesR_all p).2
  rw [if_neg (by omega), if_neg (by simp [h2, e2]), e1, if_neg (by rw [List.length_drop]; omega), hcat, glue_namesR h1]
theorem both_law {a b : ByteArray} (ha : a.size ≤ 100) (hb : b.size ≤ 100) (h : (bothO a b).2 = 0) : restO (bothO a b).1 a = (b, 0) := by
  unfold bothO at h
  rw [if_neg (by omega)] at h
  split at h
  · cases h
  split at h
  · cases h
  rename_i h1 h2
  have h3 : pathB a = true ∧ pathB b = true := Classical.byContradiction h1
  have e : (bothO a b).1 = glue (namesR a ++ namesR b) := by unfold bothO; rw [if_neg (by omega), if_neg h1, if_neg h2]
  rw [e]
  have hx : ∀ u ∈ namesR a ++ namesR b, nameB u = true := by
    intro t ht
    rcases List.mem_append.1 ht with ht | ht
    · exact (namesR_all a).1 t ht
    · exact (namesR_all b).1 t ht
  have hl : (namesR a ++ namesR b).length ≤ 6 := by rw [List.length_append]; omega
  have e1 := namesR_glue hx hl
  have e2 := pathB_glue hx hl
  have e3 := glue_size _ (fun u hu => (name_free (hx u hu)).2.2.2)
  unfold restO
  rw [if_neg (by omega), if_neg (by simp [h3.1, e2]), e1, if_neg (by rw [under_self]; simp), List.drop_left, glue_namesR h3.2]
theorem both_size (a b : ByteArray) : (bothO a b).1.size ≤ 1000 := by
  unfold bothO
  split
  · exact Nat.zero_le _
  split
  · exact Nat.zero_le _
  split
  · exact Nat.zero_le _
  rename_i h2
  have := glue_size (namesR a ++ namesR b) (fun u hu => by
    rcases List.mem_append.1 hu with ht | ht
    · exact (name_free ((namesR_all a).1 u ht)).2.2.2
    · exact (name_free ((namesR_all b).1 u ht)).2.2.2)
  rw [List.length_append] at this
  show (glue (namesR a ++ namesR b)).size ≤ 1000
  omega
theorem rest_size (a b : ByteArray) : (restO a b).1.size ≤ 1000 := by
  unfold restO
  split
  · exact Nat.zero_le _
  split
  · exact Nat.zero_le _
  split
  · exact Nat.zero_le _
  have h6 := (namesR_all a).2
  have := glue_size ((namesR a).drop (namesR b).length) (fun u hu => (name_free ((namesR_all a).1 u (List.mem_of_mem_drop hu))).2.2.2)
  rw [List.length_drop] at this
  show (glue ((namesR a).drop (namesR b).length)).size ≤ 1000
  omega
end Pl
end Go.Proofs.YtepmojmelcngeaaGreatDoor

/- What lies below a path, in a list of nodes that rises: side by side. No program in sight. -/
namespace Go.Proofs.YtepmojmelcngeaaGreatDoor
namespace Pl
/-- A path that is not another one, and is under it. -/
def belowP (q p : ByteArray) : Bool := !decide (q = p) && (pathB q && pathB p && underR (namesR q) (namesR p))
def pieceL (L : List Nd) (p : ByteArray) : List Nd := (L.dropWhile (fun n => !belowP n.path p)).takeWhile (fun n => belowP n.path p)
theorem mid_L : ∀ P A B C : List ByteArray, (∀ (j : Nat) t, P[j]? = some t → A[j]? = some t) → (∀ (j : Nat) t, P[j]? = some t → C[j]? = some t) → lessL A B = true → lessL B C = true → ∀ (j : Nat) t, P[j]? = some t → B[j]? = some t := by
  intro P
  induction P with
  | nil => intro A B C _ _ _ _ j t h; simp at h
  | cons x P ih =>
    intro A B C hA hC h1 h2 j t hj
    have a0 := hA 0 x rfl
    have c0 := hC 0 x rfl
    match A, a0 with
    | a :: A, a0 =>
      simp at a0
      match C, c0 with
      | c :: C, c0 =>
        simp at c0
        subst a0 c0
        match B, h1, h2 with
        | [], h1, _ => simp [lessL] at h1
        | b :: B, h1, h2 =>
          have e : b = c := by
            by_cases e : b = c
            · exact e
            · exfalso
              rw [lessL, if_neg (fun h => e h.symm)] at h1
              rw [lessL, if_neg e] at h2
              have hne : c.toList ≠ b.toList := fun h => e (by_inj (by rw [ByteArray.toList_eq, ByteArray.toList_eq] at h; exact h.symm))
              rw [bytesLess_anti _ _ hne, h2] at h1
              cases h1
          subst e
          rw [lessL, if_pos rfl] at h1 h2
          match j, hj with
          | 0, hj => simpa using hj
          | j + 1, hj =>
            have hj' : P[j]? = some t := by simpa using hj
            have := ih A B C (fun i u hu => by have := hA (i + 1) u (by simpa using hu); simpa using this) (fun i u hu => by have := hC (i + 1) u (by simpa using hu); simpa using this) h1 h2 j t hj'
            simpa using this
theorem mid {a b c p : ByteArray} (ha : pathB a = true) (hb : pathB b = true) (hc : pathB c = true) (h1 : ltP a b = true) (h2 : ltP b c = true) (ka : belowP a p = true) (kc : belowP c p = true) : belowP b p = true := by
  rw [ltP_right ha hb] at h1
  rw [ltP_right hb hc] at h2
  simp only [belowP, Bool.and_eq_true, Bool.not_eq_true', decide_eq_false_iff_not] at ka kc ⊢
  obtain ⟨_, ⟨_, hp⟩, ua⟩ := ka
  obtain ⟨_, _, uc⟩ := kc
  rw [namesR_yes ha, namesR_yes hp] at ua
  rw [namesR_yes hc, namesR_yes hp] at uc
  have hm := mid_L _ _ _ _ ((underR_iff _ _).1 ua) ((underR_iff _ _).1 uc) h1 h2
  refine ⟨fun e => ?_, ⟨hb, hp⟩, ?_⟩
  · subst e
    rw [less_under _ _ ((underR_iff _ _).1 ua)] at h1
    cases h1
  · rw [namesR_yes hb, namesR_yes hp]
    exact (underR_iff _ _).2 hm
theorem take_filter {p : ByteArray} : ∀ (L : List Nd) (n : Nd), pathB n.path = true → belowP n.path p = true → (∀ m ∈ L, pathB m.path = true ∧ ltP n.path m.path = true) → L.Pairwise (fun a b => ltP a.path b.path = true) →
    L.takeWhile (fun m => belowP m.path p) = L.filter (fun m => belowP m.path p) := by
  intro L
  induction L with
  | nil => intros; rfl
  | cons b L ih =>
    intro n hn hk hL hr
    have hb := hL b List.mem_cons_self
    have hr' := List.pairwise_cons.1 hr
    cases kb : belowP b.path p
    · have hf : (b :: L).filter (fun m => belowP m.path p) = [] := by
        rw [List.filter_eq_nil_iff]
        intro c hc kc
        rcases List.mem_cons.1 hc with e | hc
        · subst e; rw [kb] at kc; cases kc
        · have := mid hn hb.1 (hL c (List.mem_cons_of_mem _ hc)).1 hb.2 (hr'.1 c hc) hk kc
          rw [kb] at this; cases this
      rw [hf, List.takeWhile_cons, kb]; rfl
    · rw [List.takeWhile_cons, List.filter_cons, kb]
      simp only [if_true]
      rw [ih b hb.1 kb (fun m hm => ⟨(hL m (List.mem_cons_of_mem _ hm)).1, hr'.1 m hm⟩) hr'.2]
theorem piece_filter (p : ByteArray) : ∀ (L : List Nd), (∀ n ∈ L, pathB n.path = true) → L.Pairwise (fun a b => ltP a.path b.path = true) → pieceL L p = L.filter (fun n => belowP n.path p) := by
  intro L
  induction L with
  | nil => intros; rfl
  | cons n L ih =>
    intro hok hr
    have hr' := List.pairwise_cons.1 hr
    cases k : belowP n.path p
    · rw [pieceL, List.dropWhile_cons, k, List.filter_cons, k]
      simp only [Bool.not_false, if_true, Bool.false_eq_true, if_false]
      exact ih (fun m hm => hok m (List.mem_cons_of_mem _ hm)) hr'.2
    · rw [pieceL, List.dropWhile_cons, k, List.filter_cons, k]
      simp only [Bool.not_true, Bool.false_eq_true, if_false, if_true]
      rw [List.takeWhile_cons, k]
      simp only [if_true]
      rw [take_filter L n (hok n List.mem_cons_self) k (fun m hm => ⟨hok m (List.mem_cons_of_mem _ hm), hr'.1 m hm⟩) hr'.2]
/-- The piece of a list, cut by its two places. -/
theorem piece_at (L : List Nd) (p : ByteArray) (i j : Nat) (hij : i ≤ j) (_hj : j ≤ L.length) (h1 : ∀ (k : Nat) n, k < i → L[k]? = some n → belowP n.path p = false) (h2 : ∀ n, L[i]? = some n → belowP n.path p = true)
    (h3 : ∀ (k : Nat) n, i ≤ k → k < j → L[k]? = some n → belowP n.path p = true) (h4 : ∀ n, L[j]? = some n → belowP n.path p = false) : pieceL L p = (L.drop i).take (j - i) := by
  have hd : L.dropWhile (fun n => !belowP n.path p) = L.drop i := by
    clear h3 h4 hij _hj j
    induction L generalizing i with
    | nil => simp
    | cons n L ih =>
      match i with
      | 0 =>
        have := h2 n rfl
        rw [List.dropWhile_cons, this]; simp
      | i + 1 =>
        have := h1 0 n (by omega) rfl
        rw [List.dropWhile_cons, this]
        simp only [Bool.not_false, if_true, List.drop_succ_cons]
        exact ih i (fun k m hk hm => h1 (k + 1) m (by omega) (by simpa using hm)) (fun m hm => h2 m (by simpa using hm))
  rw [pieceL, hd]
  have hlen : (L.drop i).length = L.length - i := by simp
  have h3' : ∀ (k : Nat) n, k < j - i → (L.drop i)[k]? = some n → belowP n.path p = true := fun k n hk hn => h3 (i + k) n (by omega) (by omega) (by simpa [List.getElem?_drop] using hn)
  have h4' : ∀ n, (L.drop i)[j - i]? = some n → belowP n.path p = false := fun n hn => h4 n (by rw [List.getElem?_drop, show i + (j - i) = j by omega] at hn; exact hn)
  generalize L.drop i = M at h3' h4'
  generalize j - i = q at h3' h4'
  clear hd h1 h2 h3 h4 hlen hij _hj
  induction M generalizing q with
  | nil => simp
  | cons n M ih =>
    match q with
    | 0 => have := h4' n rfl; rw [List.takeWhile_cons, this]; simp
    | q + 1 =>
      have := h3' 0 n (by omega) rfl
      rw [List.takeWhile_cons, this]
      simp only [if_true, List.take_succ_cons]
      rw [ih q (fun k m hk hm => h3' (k + 1) m (by omega) (by simpa using hm)) (fun m hm => h4' m (by simpa using hm))]
theorem piece_none {L : List Nd} {p : ByteArray} : (pieceL L p).length = 0 ↔ L.any (fun n => belowP n.path p) = false := by
  induction L with
  | nil => simp [pieceL]
  | cons n L ih =>
    cases k : belowP n.path p
    · rw [pieceL, List.dropWhile_cons, k, List.any_cons, k]
      simpa [pieceL] using ih
    · rw [pieceL, List.dropWhile_cons, k, List.any_cons, k]
      simp [k]
end Pl
end Go.Proofs.YtepmojmelcngeaaGreatDoor

/- The names of a directory. No program in sight. -/
namespace Go.Proofs.YtepmojmelcngeaaGreatDoor
namespace Pl
def kidsL (p : ByteArray) (L : List Nd) : List ByteArray := (L.filter (fun n => decide (parent n.path = p))).map (fun n => base n.path)
theorem kids_in {L : List Nd} {p : ByteArray} {k : Nat} {n : Nd} (hn : L[k]? = some n) (h : parent n.path = p) : kidsL p (L.take (k + 1)) = kidsL p (L.take k) ++ [base n.path] := by
  have h1 := List.getElem?_eq_some_iff.1 hn
  rw [List.take_succ_eq_append_getElem h1.1, h1.2]
  simp [kidsL, h]
theorem kids_out {L : List Nd} {p : ByteArray} {k : Nat} {n : Nd} (hn : L[k]? = some n) (h : parent n.path ≠ p) : kidsL p (L.take (k + 1)) = kidsL p (L.take k) := by
  have h1 := List.getElem?_eq_some_iff.1 hn
  rw [List.take_succ_eq_append_getElem h1.1, h1.2]
  simp [kidsL, h]
theorem kids_len (p : ByteArray) (L : List Nd) (k : Nat) : (kidsL p (L.take k)).length ≤ k := by
  have h1 : (kidsL p (L.take k)).length ≤ (L.take k).length := by simpa [kidsL] using List.length_filter_le _ (L.take k)
  have h2 : (L.take k).length ≤ k := by simp; omega
  omega
def kidsO (p : ByteArray) (L : List Nd) : List ByteArray := if treeB L = true ∧ dirS L p = true then kidsL p L else []
theorem kidsO_len (p : ByteArray) (L : List Nd) : (kidsO p L).length ≤ 40 := by
  unfold kidsO
  split
  · rename_i h
    have h2 := h.1
    simp only [treeB, Bool.and_eq_true, decide_eq_true_eq] at h2
    have := kids_len p L L.length
    rw [List.take_length] at this
    omega
  · exact Nat.zero_le _
/-- A child is below. -/
theorem kid_below {q p : ByteArray} (hq : pathB q = true) (h0 : q.size ≠ 0) (hp : pathB p = true) (h : parent q = p) : belowP q p = true := by
  have hn : names p = (names q).dropLast := by rw [← h, parent_right hq, parent_names hq]
  have hne : names q ≠ [] := fun e => h0 (by
    have := glue_names q
    rw [e] at this
    rw [← this]; rfl)
  simp only [belowP, Bool.and_eq_true, Bool.not_eq_true', decide_eq_false_iff_not]
  refine ⟨fun e => ?_, ⟨hq, hp⟩, ?_⟩
  · rw [← e] at hn
    have h1 := congrArg List.length hn
    rw [List.length_dropLast] at h1
    have h2 : 0 < (names q).length := List.length_pos_iff.2 hne
    omega
  · rw [namesR_yes hq, namesR_yes hp, hn]
    refine (underR_iff _ _).2 (fun j t hj => ?_)
    rw [List.getElem?_dropLast] at hj
    split at hj
    · exact hj
    · cases hj
theorem kids_piece {L : List Nd} {p : ByteArray} (hL : ∀ n ∈ L, pathB n.path = true ∧ n.path.size ≠ 0) (hp : pathB p = true) : kidsL p (L.filter (fun n => belowP n.path p)) = kidsL p L := by
  unfold kidsL
  rw [List.filter_filter]
  congr 1
  apply List.filter_congr
  intro n hn
  by_cases h : parent n.path = p
  · rw [kid_below (hL n hn).1 (hL n hn).2 hp h]; simp
  · simp [h]
theorem dir_right {L : List Nd} {p : ByteArray} (hL : ∀ n ∈ L, pathB n.path = true) (h : dirS L p = true) : pathB p = true := by
  simp only [dirS, Bool.or_eq_true, decide_eq_true_eq] at h
  rcases h with h | h
  · exact (right_root h).1
  · split at h
    · rename_i m hm
      have h1 := List.mem_of_find?_eq_some hm
      have h2 := List.find?_some hm
      simp at h2
      rw [← h2]; exact hL m h1
    · cases h
theorem tree_apart' {L : List Nd} (h : treeB L = true) : L.Pairwise (fun a b => a.path ≠ b.path) := by
  have h2 : goI [] ⟨#[]⟩ L = true := by unfold treeB at h; simp at h; exact h.2
  exact (goI_rise L [] ⟨#[]⟩ h2 (right_root rfl).1).1.imp (fun {a b} hab e => by rw [e, less_irr] at hab; cases hab)
theorem tree_rise' {L : List Nd} (h : treeB L = true) : L.Pairwise (fun a b => ltP a.path b.path = true) := by
  simp only [treeB, Bool.and_eq_true, decide_eq_true_eq] at h
  have hn := goI_all L _ _ h.2
  have hr := (goI_rise L [] ⟨#[]⟩ h.2 (right_root rfl).1).1
  exact List.Pairwise.imp_of_mem (fun {a b} ha hb hab => by rw [ltP_right (node_right (hn a ha)).1 (node_right (hn b hb)).1]; exact hab) hr
end Pl
end Go.Proofs.YtepmojmelcngeaaGreatDoor

