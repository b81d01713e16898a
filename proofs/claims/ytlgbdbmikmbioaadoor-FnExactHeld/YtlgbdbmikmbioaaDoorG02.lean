/- Several texts of one claim in one file: PlainR, PlainNode, PlainLess. -/
import Derived.Test.YtlgbdbmikmbioaaDoorG01
import Derived.WalkKit
import Derived.Laws.IdiomStrings
/- The names of a right path; none of another one. No Go in sight. -/
namespace Go.Proofs.YtlgbdbmikmbioaaDoor
namespace Pl
/-- The names of a right path; none of another one. -/
def namesR (s : ByteArray) : List ByteArray := if pathB s then names s else []
theorem namesR_no {s : ByteArray} (h : pathB s = false) : namesR s = [] := by rw [namesR, h]; rfl
theorem namesR_yes {s : ByteArray} (h : pathB s = true) : namesR s = names s := by rw [namesR, h]; rfl
theorem cut_pos (s : ByteArray) : 0 < (cut s 47).length := by
  have h := cut_list s
  have : (cut s 47).length = (cutL (by_ s)).length := by rw [← h, List.length_map]
  rw [this]
  exact List.length_pos_iff.2 (cutL_ne _)
theorem right_root {s : ByteArray} (h : s.size = 0) : pathB s = true ∧ names s = [] := by
  have h1 : names s = [] := if_pos h
  exact ⟨by simp [pathB_short, h1], h1⟩
theorem cut_length (s : ByteArray) : (cut s 47).length ≤ s.size + 1 := cutF_length s 47 s.size 0 0
theorem cut_size {s : ByteArray} {k : Nat} {t : ByteArray} (h : (cut s 47)[k]? = some t) : t.size ≤ s.size := cutF_size s 47 _ _ _ t (List.mem_of_getElem? h)
theorem namesR_all (s : ByteArray) : (∀ t ∈ namesR s, nameB t = true) ∧ (namesR s).length ≤ 6 := by
  cases h : pathB s
  · rw [namesR_no h]; simp
  · rw [namesR_yes h]; exact pathB_all h
theorem glue_small {L : List ByteArray} (h : ∀ t ∈ L, nameB t = true) (h6 : L.length ≤ 20) : (glue L).size ≤ 1000000 := by
  have := glue_size L (fun t ht => (name_free (h t ht)).2.2.2); omega
theorem all_take {L : List ByteArray} (h : ∀ t ∈ L, nameB t = true) (k : Nat) : ∀ t ∈ L.take k, nameB t = true := fun t ht => h t (List.mem_of_mem_take ht)
theorem all_drop {L : List ByteArray} (h : ∀ t ∈ L, nameB t = true) (k : Nat) : ∀ t ∈ L.drop k, nameB t = true := fun t ht => h t (List.mem_of_mem_drop ht)
/-- Does the list A begin with all of B? -/
def underR (A B : List ByteArray) : Bool := (B.map by_).isPrefixOf (A.map by_)
theorem under_names (p t : ByteArray) : under p t = underR (names p) (names t) := rfl
theorem underR_iff (A B : List ByteArray) : underR A B = true ↔ ∀ (j : Nat) t, B[j]? = some t → A[j]? = some t := by
  unfold underR
  rw [List.isPrefixOf_iff_prefix]
  constructor
  · rintro ⟨R, hR⟩ j t ht
    have h1 : (A.map by_)[j]? = some (by_ t) := by
      rw [← hR, List.getElem?_append_left (by rw [List.length_map]; exact (List.getElem?_eq_some_iff.1 ht).1), List.getElem?_map, ht]; rfl
    rw [List.getElem?_map] at h1
    cases hA : A[j]? with
    | none => rw [hA] at h1; simp at h1
    | some a => rw [hA] at h1; simp at h1; rw [by_inj h1]
  · intro h
    have : B = A.take B.length := by
      apply List.ext_getElem?
      intro j
      by_cases hj : j < B.length
      · rw [List.getElem?_take_of_lt hj, List.getElem?_eq_getElem hj, h j _ (List.getElem?_eq_getElem hj)]
      · rw [List.getElem?_eq_none (by omega), List.getElem?_eq_none (by simp; omega)]
    rw [this, List.map_take]
    exact List.take_prefix _ _
theorem underR_short {A B : List ByteArray} (h : A.length < B.length) : underR A B = false := by
  rw [Bool.eq_false_iff]
  intro h1
  have h2 := (underR_iff A B).1 h1 A.length _ (List.getElem?_eq_getElem h)
  rw [List.getElem?_eq_none (Nat.le_refl _)] at h2; cases h2
theorem underR_not {A B : List ByteArray} {j : Nat} {a b : ByteArray} (ha : A[j]? = some a) (hb : B[j]? = some b) (h : a ≠ b) : underR A B = false := by
  rw [Bool.eq_false_iff]
  intro h1
  have h2 := (underR_iff A B).1 h1 j b hb
  rw [ha] at h2; cases h2; exact h rfl
theorem eq_lists {a b : ByteArray} (h : a = b) : (a.toList == b.toList) = true := by rw [h]; exact beq_self_eq_true _
theorem ne_lists {a b : ByteArray} (h : a ≠ b) : (a.toList == b.toList) = false := by
  rw [beq_eq_false_iff_ne, ByteArray.toList_eq, ByteArray.toList_eq]
  exact fun e => h (by_inj e)
/-- A text and a code, as a TextOut. -/
def tOut (x : ByteArray × Int) : Value := .agg #[.string x.1, .int .i64 0, .int .i64 x.2]
def joinO (p n : ByteArray) : ByteArray × Int :=
  if 8000 < p.size ∨ 8000 < n.size then (⟨#[]⟩, 2) else if ¬ (pathB p = true ∧ nameB n = true) then (⟨#[]⟩, 1) else if (namesR p).length = 6 then (⟨#[]⟩, 9) else (glue (namesR p ++ [n]), 0)
def restO (p t : ByteArray) : ByteArray × Int :=
  if 8000 < p.size ∨ 8000 < t.size then (⟨#[]⟩, 2) else if ¬ (pathB p = true ∧ pathB t = true) then (⟨#[]⟩, 1) else if underR (namesR p) (namesR t) = false then (⟨#[]⟩, 6) else (glue ((namesR p).drop (namesR t).length), 0)
def bothO (t p : ByteArray) : ByteArray × Int :=
  if 8000 < t.size ∨ 8000 < p.size then (⟨#[]⟩, 2) else if ¬ (pathB t = true ∧ pathB p = true) then (⟨#[]⟩, 1) else if 6 < (namesR t).length + (namesR p).length then (⟨#[]⟩, 9) else (glue (namesR t ++ namesR p), 0)
theorem underR_length {A B : List ByteArray} (h : underR A B = true) : B.length ≤ A.length := by
  by_cases hl : A.length < B.length
  · rw [underR_short hl] at h; cases h
  · omega
theorem step_stay {h : List ByteArray} {t : ByteArray} (hd : by_ t = [] ∨ by_ t = [46]) : stepW h t = .ok h := by rw [stepW, if_pos hd]
theorem step_up {h : List ByteArray} {t : ByteArray} (h1 : ¬ (by_ t = [] ∨ by_ t = [46])) (h2 : by_ t = [46, 46]) : stepW h t = .ok h.dropLast := by rw [stepW, if_neg h1, if_pos h2]
theorem step_bad {h : List ByteArray} {t : ByteArray} (h1 : ¬ (by_ t = [] ∨ by_ t = [46])) (h2 : ¬ by_ t = [46, 46]) (h3 : nameB t = false) : stepW h t = .error 3 := by rw [stepW, if_neg h1, if_neg h2, if_pos h3]
theorem step_full {h : List ByteArray} {t : ByteArray} (h1 : ¬ (by_ t = [] ∨ by_ t = [46])) (h2 : ¬ by_ t = [46, 46]) (h3 : ¬ nameB t = false) (h4 : h.length = 6) : stepW h t = .error 9 := by rw [stepW, if_neg h1, if_neg h2, if_neg h3, if_pos h4]
theorem step_into {h : List ByteArray} {t : ByteArray} (h1 : ¬ (by_ t = [] ∨ by_ t = [46])) (h2 : ¬ by_ t = [46, 46]) (h3 : ¬ nameB t = false) (h4 : ¬ h.length = 6) : stepW h t = .ok (h ++ [t]) := by rw [stepW, if_neg h1, if_neg h2, if_neg h3, if_neg h4]
theorem empty_list {t : ByteArray} : t.toList.isEmpty = decide (by_ t = []) := by
  rw [ByteArray.toList_eq]; change (by_ t).isEmpty = _
  cases by_ t <;> simp
theorem list_is {t : ByteArray} {l : List UInt8} : (t.toList == l) = decide (by_ t = l) := by
  rw [ByteArray.toList_eq]; change (by_ t == l) = _
  exact Bool.beq_eq_decide_eq _ _
/-- Does a text begin with a slash? -/
def slashB (s : ByteArray) : Bool := (by_ s).head? == some 47
theorem cut_first {s t : ByteArray} (h : (cut s 47)[0]? = some t) : slashB s = (decide (by_ t = []) && decide (1 < (cut s 47).length)) := by
  have h1 : (cutL (by_ s))[0]? = some (by_ t) := by rw [← cut_list, List.getElem?_map, h]; rfl
  have h2 : (cut s 47).length = (cutL (by_ s)).length := by rw [← cut_list, List.length_map]
  rw [h2]
  unfold slashB
  cases hs : by_ s with
  | nil => rw [hs] at h1; simp [cutL] at h1 ⊢
  | cons b l =>
    rw [hs] at h1
    by_cases hb : b = 47
    · subst hb
      rw [cutL_hit] at h1 ⊢
      have := cutL_ne l
      simp at h1 ⊢
      exact ⟨h1, List.length_pos_iff.2 this⟩
    · obtain ⟨x, r, e⟩ := cutL_ex l
      rw [cutL_miss hb e] at h1 ⊢
      simp at h1 ⊢
      simp [hb, ← h1]
theorem step_all {h h' : List ByteArray} {t : ByteArray} (hs : stepW h t = .ok h') (ha : ∀ u ∈ h, nameB u = true) (hl : h.length ≤ 6) : (∀ u ∈ h', nameB u = true) ∧ h'.length ≤ 6 := by
  unfold stepW at hs
  split at hs
  · cases hs; exact ⟨ha, hl⟩
  split at hs
  · cases hs; exact ⟨fun u hu => ha u (List.dropLast_subset _ hu), by rw [List.length_dropLast]; omega⟩
  split at hs
  · cases hs
  split at hs
  · cases hs
  · cases hs
    rename_i h3 h4
    refine ⟨fun u hu => ?_, by simp; omega⟩
    rcases List.mem_append.1 hu with hu | hu
    · exact ha u hu
    · simp at hu; subst hu; simpa using h3
def start (b t : ByteArray) : List ByteArray := if slashB t then [] else namesR b
def atO (b t : ByteArray) : ByteArray × Int :=
  if 8000 < b.size ∨ 8000 < t.size then (⟨#[]⟩, 2) else if pathB b = false then (⟨#[]⟩, 1) else
    match walkW (start b t) (cut t 47) with
    | .ok h => (glue h, 0)
    | .error c => (⟨#[]⟩, c)
theorem walk_ok {h h' : List ByteArray} {W : List ByteArray} {k : Nat} {t : ByteArray} (hk : W[k]? = some t) (hs : stepW h t = .ok h') : walkW h (W.drop k) = walkW h' (W.drop (k + 1)) := by
  have h1 := (List.getElem?_eq_some_iff.1 hk)
  rw [List.drop_eq_getElem_cons h1.1, walkW, h1.2, hs]
theorem walk_no {h : List ByteArray} {W : List ByteArray} {k : Nat} {t : ByteArray} {c : Int} (hk : W[k]? = some t) (hs : stepW h t = .error c) : walkW h (W.drop k) = .error c := by
  have h1 := (List.getElem?_eq_some_iff.1 hk)
  rw [List.drop_eq_getElem_cons h1.1, walkW, h1.2, hs]
theorem walk_end {h : List ByteArray} (W : List ByteArray) : walkW h (W.drop W.length) = .ok h := by rw [List.drop_length, walkW]
end Pl
end Go.Proofs.YtlgbdbmikmbioaaDoor

/- Nodes, and whether they are right. No program in sight but its values. -/
namespace Go.Proofs.YtlgbdbmikmbioaaDoor
namespace Pl
structure Nd where
  path : ByteArray
  kind : Int
  data : ByteArray
  time : Int
  mark : Int
def Nd.cells (n : Nd) : List Value := [.string n.path, .int .i64 n.kind, .string n.data, .int .i64 n.time, .int .i64 n.mark]
def Nd.val (n : Nd) : Value := .agg #[.string n.path, .int .i64 n.kind, .string n.data, .int .i64 n.time, .int .i64 n.mark]
def kindB (n : Nd) : Bool :=
  if n.kind = 0 then decide (n.data.size = 0) && decide (n.time = 0) && decide (1 ≤ n.mark)
  else if n.kind = 1 then decide (n.data.size = 0)
  else if n.kind = 2 then decide (n.mark = 0) else false
def nodeB (n : Nd) : Bool := decide (n.path.size ≠ 0) && pathB n.path && decide (n.data.size ≤ 60) && decide (0 ≤ n.time ∧ n.time ≤ 1000000) && decide (0 ≤ n.mark ∧ n.mark ≤ 8) && kindB n
theorem node_root {n : Nd} (h : n.path.size = 0) : nodeB n = false := by simp [nodeB, h]
theorem node_path {n : Nd} (h : pathB n.path = false) : nodeB n = false := by simp [nodeB, h]
theorem node_data {n : Nd} (h : 60 < n.data.size) : nodeB n = false := by
  have : decide (n.data.size ≤ 60) = false := by simp; omega
  simp [nodeB, this]
theorem node_time {n : Nd} (h : ¬ (0 ≤ n.time ∧ n.time ≤ 1000000)) : nodeB n = false := by
  have : decide (0 ≤ n.time ∧ n.time ≤ 1000000) = false := by simpa using h
  unfold nodeB; rw [this]; simp
theorem node_mark {n : Nd} (h : ¬ (0 ≤ n.mark ∧ n.mark ≤ 8)) : nodeB n = false := by
  have : decide (0 ≤ n.mark ∧ n.mark ≤ 8) = false := by simpa using h
  unfold nodeB; rw [this]; simp
theorem node_kind {n : Nd} (h0 : n.path.size ≠ 0) (h1 : pathB n.path = true) (h2 : n.data.size ≤ 60) (h3 : 0 ≤ n.time ∧ n.time ≤ 1000000) (h4 : 0 ≤ n.mark ∧ n.mark ≤ 8) : nodeB n = kindB n := by
  have e3 : decide (0 ≤ n.time ∧ n.time ≤ 1000000) = true := by simpa using h3
  have e4 : decide (0 ≤ n.mark ∧ n.mark ≤ 8) = true := by simpa using h4
  unfold nodeB; rw [e3, e4]; simp [h0, h1, h2]
/-- What a node has in it, whatever its path is. -/
def contB (n : Nd) : Bool := decide (n.data.size ≤ 60) && decide (0 ≤ n.time ∧ n.time ≤ 1000000) && decide (0 ≤ n.mark ∧ n.mark ≤ 8) && kindB n
theorem cont_data {n : Nd} (h : 60 < n.data.size) : contB n = false := by
  have : decide (n.data.size ≤ 60) = false := by simp; omega
  simp [contB, this]
theorem cont_time {n : Nd} (h : ¬ (0 ≤ n.time ∧ n.time ≤ 1000000)) : contB n = false := by
  have : decide (0 ≤ n.time ∧ n.time ≤ 1000000) = false := by simpa using h
  unfold contB; rw [this]; simp
theorem cont_mark {n : Nd} (h : ¬ (0 ≤ n.mark ∧ n.mark ≤ 8)) : contB n = false := by
  have : decide (0 ≤ n.mark ∧ n.mark ≤ 8) = false := by simpa using h
  unfold contB; rw [this]; simp
theorem cont_kind {n : Nd} (h2 : n.data.size ≤ 60) (h3 : 0 ≤ n.time ∧ n.time ≤ 1000000) (h4 : 0 ≤ n.mark ∧ n.mark ≤ 8) : contB n = kindB n := by
  have e3 : decide (0 ≤ n.time ∧ n.time ≤ 1000000) = true := by simpa using h3
  have e4 : decide (0 ≤ n.mark ∧ n.mark ≤ 8) = true := by simpa using h4
  unfold contB; rw [e3, e4]; simp [h2]
theorem node_cont {n : Nd} (h0 : n.path.size ≠ 0) (h1 : pathB n.path = true) : nodeB n = contB n := by
  unfold nodeB contB; simp [h0, h1, Bool.and_assoc]
end Pl
end Go.Proofs.YtlgbdbmikmbioaaDoor

/- Which of two lists of names is ahead. No program in sight. -/
namespace Go.Proofs.YtlgbdbmikmbioaaDoor
namespace Pl
def lessL : List ByteArray → List ByteArray → Bool
  | [], [] => false
  | [], _ :: _ => true
  | _ :: _, [] => false
  | a :: A, b :: B => if a = b then lessL A B else Op.bytesLess a.toList b.toList
theorem less_same {A B : List ByteArray} {k : Nat} {a b : ByteArray} (ha : A[k]? = some a) (hb : B[k]? = some b) (h : a = b) : lessL (A.drop k) (B.drop k) = lessL (A.drop (k + 1)) (B.drop (k + 1)) := by
  have h1 := (List.getElem?_eq_some_iff.1 ha)
  have h2 := (List.getElem?_eq_some_iff.1 hb)
  rw [List.drop_eq_getElem_cons h1.1, List.drop_eq_getElem_cons h2.1, lessL, if_pos (by rw [h1.2, h2.2]; exact h)]
theorem less_other {A B : List ByteArray} {k : Nat} {a b : ByteArray} (ha : A[k]? = some a) (hb : B[k]? = some b) (h : a ≠ b) : lessL (A.drop k) (B.drop k) = Op.bytesLess a.toList b.toList := by
  have h1 := (List.getElem?_eq_some_iff.1 ha)
  have h2 := (List.getElem?_eq_some_iff.1 hb)
  rw [List.drop_eq_getElem_cons h1.1, List.drop_eq_getElem_cons h2.1, lessL, if_neg (by rw [h1.2, h2.2]; exact h), h1.2, h2.2]
theorem less_end {A B : List ByteArray} {k : Nat} (h : k = A.length ∧ k ≤ B.length ∨ k = B.length ∧ k ≤ A.length) : lessL (A.drop k) (B.drop k) = decide (A.length < B.length) := by
  rcases h with ⟨rfl, h⟩ | ⟨rfl, h⟩
  · rw [List.drop_length]
    by_cases hl : A.length < B.length
    · rw [List.drop_eq_getElem_cons hl]; simp [lessL, hl]
    · rw [List.drop_of_length_le (by omega)]; simp [lessL, hl]
  · rw [List.drop_length]
    have hn : ¬ A.length < B.length := by omega
    by_cases hl : B.length < A.length
    · rw [List.drop_eq_getElem_cons hl]; simp [lessL, hn]
    · rw [List.drop_of_length_le (by omega)]; simp [lessL, hn]
end Pl
end Go.Proofs.YtlgbdbmikmbioaaDoor

