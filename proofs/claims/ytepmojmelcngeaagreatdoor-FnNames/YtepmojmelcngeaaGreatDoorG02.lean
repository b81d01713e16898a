/- Several texts of one claim in one file: PlainPar, PlainR, PlainLess. -/
import Derived.Test.YtepmojmelcngeaaGreatDoorG01
import Derived.WalkKit
import Derived.Laws.IdiomStrings
/- Parents, last names, what lies under what, rests, and the way of a text. No Go in sight. -/
namespace Go.Proofs.YtepmojmelcngeaaGreatDoor
namespace Pl
theorem by_take_succ (s : ByteArray) (k : Nat) (h : k < s.size) : (by_ s).take (k + 1) = (by_ s).take k ++ [s[k]] := take_snoc s k h
theorem slash_split (s : ByteArray) : ∀ k, k ≤ s.size → ((47 : UInt8) ∉ (by_ s).take k ∧ slashTo s k = -1) ∨ ∃ a b, (by_ s).take k = a ++ 47 :: b ∧ (47 : UInt8) ∉ b ∧ slashTo s k = (a.length : Int) := by
  intro k
  induction k with
  | zero => intro _; left; simp [slashTo]
  | succ k ih =>
    intro hk
    have hlt : k < s.size := by omega
    have ih := ih (by omega)
    rw [by_take_succ s k hlt]
    by_cases hb : s[k].toNat = 47
    · right
      have hb' : s[k] = 47 := UInt8.toNat_inj.1 hb
      refine ⟨(by_ s).take k, [], by rw [hb'], by simp, ?_⟩
      rw [slash_hit hlt hb, List.length_take, by_length, Nat.min_eq_left (by omega)]
    · have hb' : s[k] ≠ 47 := fun e => hb (by rw [e]; rfl)
      rw [slash_miss hlt hb]
      rcases ih with ⟨h1, h2⟩ | ⟨a, b, h1, h2, h3⟩
      · left
        refine ⟨?_, h2⟩
        rw [List.mem_append, not_or]
        exact ⟨h1, by simpa using fun e => hb' e.symm⟩
      · right
        refine ⟨a, b ++ [s[k]], by rw [h1]; simp, ?_, h3⟩
        rw [List.mem_append, not_or]
        exact ⟨h2, by simpa using fun e => hb' e.symm⟩
/-- Either there is no slash, or the last one is there. -/
theorem slash_parts (s : ByteArray) : ((47 : UInt8) ∉ by_ s ∧ slashTo s s.size = -1) ∨ ∃ a b, by_ s = a ++ 47 :: b ∧ (47 : UInt8) ∉ b ∧ slashTo s s.size = (a.length : Int) := by
  have h := slash_split s s.size (Nat.le_refl _)
  rwa [List.take_of_length_le (by rw [by_length]; exact Nat.le_refl _)] at h
theorem namesL_split {l a b : List UInt8} (h : l = a ++ 47 :: b) : namesL l = cutL a ++ cutL b := by
  subst h; rw [namesL, if_neg (by simp), cutL_append]
theorem namesL_free {l : List UInt8} (h : (47 : UInt8) ∉ l) : namesL l = if l = [] then [] else [l] := by
  rw [namesL]; split
  · rfl
  · exact cutL_free h
/-- The last name of a path. -/
def base (s : ByteArray) : ByteArray := s.extract (slashTo s s.size + 1).toNat s.size
theorem parent_glue (s : ByteArray) : parent s = glue (names s).dropLast := by
  apply by_inj
  rw [by_glue, List.map_dropLast, names_list]
  unfold parent
  rcases slash_parts s with ⟨h1, h2⟩ | ⟨a, b, h1, h2, h3⟩
  · rw [h2, if_pos (by omega), namesL_free h1]
    split <;> rfl
  · rw [h3, if_neg (by omega), by_extract, namesL_split h1, cutL_free h2, List.dropLast_concat, glue_cutL, h1]
    simp
theorem base_glue (s : ByteArray) : base s = glue ((names s).drop ((names s).length - 1)) := by
  apply by_inj
  have hl : (names s).length = (namesL (by_ s)).length := by rw [← names_list, List.length_map]
  rw [by_glue, List.map_drop, names_list, hl]
  unfold base
  rcases slash_parts s with ⟨h1, h2⟩ | ⟨a, b, h1, h2, h3⟩
  · rw [h2, by_extract, namesL_free h1]
    have e : List.take (s.size - ((-1 : Int) + 1).toNat) (List.drop ((-1 : Int) + 1).toNat (by_ s)) = by_ s := by
      simp [← by_length]
    rw [e]
    split
    · next h => rw [h]; rfl
    · rfl
  · rw [h3, by_extract, namesL_split h1, cutL_free h2]
    have h4 : ((a.length : Int) + 1).toNat = a.length + 1 := by omega
    have h5 : s.size = a.length + 1 + b.length := by rw [← by_length, h1]; simp; omega
    rw [h4, h5, h1]
    simp [glueL]
theorem drop_last {α : Type} (L : List α) : L.take (L.length - 1) = L.dropLast := by rw [List.dropLast_eq_take]
/-- Is a path another one, or under it: by names. -/
def under (p t : ByteArray) : Bool := ((names t).map by_).isPrefixOf ((names p).map by_)
theorem under_iff (p t : ByteArray) : under p t = true ↔ (by_ t = [] ∨ by_ p = by_ t ∨ ∃ r, by_ p = by_ t ++ 47 :: r) := by
  unfold under
  rw [List.isPrefixOf_iff_prefix, names_list, names_list]
  constructor
  · rintro ⟨R, e⟩
    by_cases ht : by_ t = []
    · exact .inl ht
    · right
      have e2 := congrArg glueL e
      by_cases hr : R = []
      · left
        subst hr
        rw [List.append_nil, glue_namesL, glue_namesL] at e2
        exact e2.symm
      · right
        rw [glueL_append (by rw [namesL, if_neg ht]; exact cutL_ne _) hr, glue_namesL, glue_namesL] at e2
        exact ⟨_, e2.symm⟩
  · rintro (h | h | ⟨r, h⟩)
    · rw [h]; exact List.nil_prefix
    · rw [h]; exact List.prefix_refl _
    · by_cases ht : by_ t = []
      · rw [ht]; exact List.nil_prefix
      · refine ⟨cutL r, ?_⟩
        rw [namesL_split h, namesL, if_neg ht]
/-- What a path has behind another one. -/
def rest (p t : ByteArray) : ByteArray := glue ((names p).drop (names t).length)
theorem rest_root {p t : ByteArray} (h : by_ t = []) : rest p t = p := by
  have : names t = [] := by apply map_by_inj; rw [names_list, h]; rfl
  rw [rest, this]; exact glue_names p
theorem rest_same (p : ByteArray) : rest p p = ⟨#[]⟩ := by
  rw [rest, List.drop_length]; rfl
theorem rest_more {p t : ByteArray} {r : List UInt8} (ht : by_ t ≠ []) (h : by_ p = by_ t ++ 47 :: r) : rest p t = p.extract (t.size + 1) p.size := by
  have h1 : (names p).map by_ = (names t).map by_ ++ cutL r := by
    rw [names_list, names_list, namesL_split h, namesL, if_neg ht]
  apply by_inj
  rw [rest, by_glue, List.map_drop, h1, ← List.length_map (f := by_) (as := names t), List.drop_left, glue_cutL, by_extract, h]
  have h2 : p.size = t.size + 1 + r.length := by rw [← by_length, h, List.length_append, List.length_cons, by_length]; omega
  have h3 : t.size = (by_ t).length := (by_length t).symm
  rw [h2, h3]; simp
/-- The names of two, one behind the other. -/
def both (t p : ByteArray) : ByteArray := glue (names t ++ names p)
theorem both_none {t p : ByteArray} (h : by_ t = [] ∨ by_ p = []) : both t p = t ++ p := by
  apply by_inj
  rw [both, by_glue, List.map_append, names_list, names_list]
  have e : by_ (t ++ p) = by_ t ++ by_ p := by simp [by_]
  rw [e]
  rcases h with h | h
  · rw [h]; simp [namesL]; exact glue_namesL _
  · rw [h]; simp [namesL]; exact glue_namesL _
theorem both_two {t p : ByteArray} (h1 : by_ t ≠ []) (h2 : by_ p ≠ []) : by_ (both t p) = by_ t ++ 47 :: by_ p := by
  rw [both, by_glue, List.map_append, names_list, names_list, glueL_append (by rw [namesL, if_neg h1]; exact cutL_ne _) (by rw [namesL, if_neg h2]; exact cutL_ne _), glue_namesL, glue_namesL]
/-- A path and a name. -/
def joinN (p n : ByteArray) : ByteArray := glue (names p ++ [n])
theorem joinN_root {p n : ByteArray} (h : by_ p = []) : joinN p n = n := by
  apply by_inj
  rw [joinN, by_glue, List.map_append, names_list, h]; rfl
theorem joinN_two {p n : ByteArray} (h : by_ p ≠ []) : by_ (joinN p n) = by_ p ++ 47 :: by_ n := by
  rw [joinN, by_glue, List.map_append, names_list, glueL_append (by rw [namesL, if_neg h]; exact cutL_ne _) (by simp), glue_namesL]; rfl
/-- One word of a text, from names on: the names behind it, or why not. -/
def stepW (h : List ByteArray) (t : ByteArray) : Except Int (List ByteArray) :=
  if by_ t = [] ∨ by_ t = [46] then .ok h
  else if by_ t = [46, 46] then .ok h.dropLast
  else if nameB t = false then .error 3
  else if h.length = 6 then .error 9
  else .ok (h ++ [t])
def walkW (h : List ByteArray) : List ByteArray → Except Int (List ByteArray)
  | [] => .ok h
  | t :: ts => match stepW h t with | .ok h' => walkW h' ts | .error c => .error c
end Pl
end Go.Proofs.YtepmojmelcngeaaGreatDoor

/- The names of a right path; none of another one. No Go in sight. -/
namespace Go.Proofs.YtepmojmelcngeaaGreatDoor
namespace Pl
/-- The names of a right path; none of another one. -/
def namesR (s : ByteArray) : List ByteArray := if pathB s then names s else []
theorem namesR_no {s : ByteArray} (h : pathB s = false) : namesR s = [] := by rw [namesR, h]; rfl
theorem namesR_yes {s : ByteArray} (h : pathB s = true) : namesR s = names s := by rw [namesR, h]; rfl
theorem cut_pos (s : ByteArray) : 0 < (cut s 47).length := by
  have h := cut_list s
  have : (cut s 47).length = (cutL (by_ s)).length := by rw [← h, List.length_map]
  rw [this]
  exact List.length_pos_iff.2 (cutL_ne _)
theorem right_root {s : ByteArray} (h : s.size = 0) : pathB s = true ∧ names s = [] := by
  have h1 : names s = [] := if_pos h
  exact ⟨by simp [pathB_short, h1], h1⟩
theorem cut_length (s : ByteArray) : (cut s 47).length ≤ s.size + 1 := cutF_length s 47 s.size 0 0
theorem cut_size {s : ByteArray} {k : Nat} {t : ByteArray} (h : (cut s 47)[k]? = some t) : t.size ≤ s.size := cutF_size s 47 _ _ _ t (List.mem_of_getElem? h)
theorem namesR_all (s : ByteArray) : (∀ t ∈ namesR s, nameB t = true) ∧ (namesR s).length ≤ 6 := by
  cases h : pathB s
  · rw [namesR_no h]; simp
  · rw [namesR_yes h]; exact pathB_all h
theorem glue_small {L : List ByteArray} (h : ∀ t ∈ L, nameB t = true) (h6 : L.length ≤ 20) : (glue L).size ≤ 1000000 := by
  have := glue_size L (fun t ht => (name_free (h t ht)).2.2.2); omega
theorem all_take {L : List ByteArray} (h : ∀ t ∈ L, nameB t = true) (k : Nat) : ∀ t ∈ L.take k, nameB t = true := fun t ht => h t (List.mem_of_mem_take ht)
theorem all_drop {L : List ByteArray} (h : ∀ t ∈ L, nameB t = true) (k : Nat) : ∀ t ∈ L.drop k, nameB t = true := fun t ht => h t (List.mem_of_mem_drop ht)
/-- Does the list A begin with all of B? -/
def underR (A B : List ByteArray) : Bool := (B.map by_).isPrefixOf (A.map by_)
theorem under_names (p t : ByteArray) : under p t = underR (names p) (names t) := rfl
theorem underR_iff (A B : List ByteArray) : underR A B = true ↔ ∀ (j : Nat) t, B[j]? = some t → A[j]? = some t := by
  unfold underR
  rw [List.isPrefixOf_iff_prefix]
  constructor
  · rintro ⟨R, hR⟩ j t ht
    have h1 : (A.map by_)[j]? = some (by_ t) := by
      rw [← hR, List.getElem?_append_left (by rw [List.length_map]; exact (List.getElem?_eq_some_iff.1 ht).1), List.getElem?_map, ht]; rfl
    rw [List.getElem?_map] at h1
    cases hA : A[j]? with
    | none => rw [hA] at h1; simp at h1
    | some a => rw [hA] at h1; simp at h1; rw [by_inj h1]
  · intro h
    have : B = A.take B.length := by
      apply List.ext_getElem?
      intro j
      by_cases hj : j < B.length
      · rw [List.getElem?_take_of_lt hj, List.getElem?_eq_getElem hj, h j _ (List.getElem?_eq_getElem hj)]
      · rw [List.getElem?_eq_none (by omega), List.getElem?_eq_none (by simp; omega)]
    rw [this, List.map_take]
    exact List.take_prefix _ _
theorem underR_short {A B : List ByteArray} (h : A.length < B.length) : underR A B = false := by
  rw [Bool.eq_false_iff]
  intro h1
  have h2 := (underR_iff A B).1 h1 A.length _ (List.getElem?_eq_getElem h)
  rw [List.getElem?_eq_none (Nat.le_refl _)] at h2; cases h2
theorem underR_not {A B : List ByteArray} {j : Nat} {a b : ByteArray} (ha : A[j]? = some a) (hb : B[j]? = some b) (h : a ≠ b) : underR A B = false := by
  rw [Bool.eq_false_iff]
  intro h1
  have h2 := (underR_iff A B).1 h1 j b hb
  rw [ha] at h2; cases h2; exact h rfl
theorem eq_lists {a b : ByteArray} (h : a = b) : (a.toList == b.toList) = true := by rw [h]; exact beq_self_eq_true _
theorem ne_lists {a b : ByteArray} (h : a ≠ b) : (a.toList == b.toList) = false := by
  rw [beq_eq_false_iff_ne, ByteArray.toList_eq, ByteArray.toList_eq]
  exact fun e => h (by_inj e)
/-- A text and a code, as a TextOut. -/
def tOut (x : ByteArray × Int) : Value := .agg #[.string x.1, .int .i64 0, .int .i64 x.2]
def joinO (p n : ByteArray) : ByteArray × Int :=
  if 8000 < p.size ∨ 8000 < n.size then (⟨#[]⟩, 2) else if ¬ (pathB p = true ∧ nameB n = true) then (⟨#[]⟩, 1) else if (namesR p).length = 6 then (⟨#[]⟩, 9) else (glue (namesR p ++ [n]), 0)
def restO (p t : ByteArray) : ByteArray × Int :=
  if 8000 < p.size ∨ 8000 < t.size then (⟨#[]⟩, 2) else if ¬ (pathB p = true ∧ pathB t = true) then (⟨#[]⟩, 1) else if underR (namesR p) (namesR t) = false then (⟨#[]⟩, 6) else (glue ((namesR p).drop (namesR t).length), 0)
def bothO (t p : ByteArray) : ByteArray × Int :=
  if 8000 < t.size ∨ 8000 < p.size then (⟨#[]⟩, 2) else if ¬ (pathB t = true ∧ pathB p = true) then (⟨#[]⟩, 1) else if 6 < (namesR t).length + (namesR p).length then (⟨#[]⟩, 9) else (glue (namesR t ++ namesR p), 0)
theorem underR_length {A B : List ByteArray} (h : underR A B = true) : B.length ≤ A.length := by
  by_cases hl : A.length < B.length
  · rw [underR_short hl] at h; cases h
  · omega
theorem step_stay {h : List ByteArray} {t : ByteArray} (hd : by_ t = [] ∨ by_ t = [46]) : stepW h t = .ok h := by rw [stepW, if_pos hd]
theorem step_up {h : List ByteArray} {t : ByteArray} (h1 : ¬ (by_ t = [] ∨ by_ t = [46])) (h2 : by_ t = [46, 46]) : stepW h t = .ok h.dropLast := by rw [stepW, if_neg h1, if_pos h2]
theorem step_bad {h : List ByteArray} {t : ByteArray} (h1 : ¬ (by_ t = [] ∨ by_ t = [46])) (h2 : ¬ by_ t = [46, 46]) (h3 : nameB t = false) : stepW h t = .error 3 := by rw [stepW, if_neg h1, if_neg h2, if_pos h3]
theorem step_full {h : List ByteArray} {t : ByteArray} (h1 : ¬ (by_ t = [] ∨ by_ t = [46])) (h2 : ¬ by_ t = [46, 46]) (h3 : ¬ nameB t = false) (h4 : h.length = 6) : stepW h t = .error 9 := by rw [stepW, if_neg h1, if_neg h2, if_neg h3, if_pos h4]
theorem step_into {h : List ByteArray} {t : ByteArray} (h1 : ¬ (by_ t = [] ∨ by_ t = [46])) (h2 : ¬ by_ t = [46, 46]) (h3 : ¬ nameB t = false) (h4 : ¬ h.length = 6) : stepW h t = .ok (h ++ [t]) := by rw [stepW, if_neg h1, if_neg h2, if_neg h3, if_neg h4]
theorem empty_list {t : ByteArray} : t.toList.isEmpty = decide (by_ t = []) := by
  rw [ByteArray.toList_eq]; change (by_ t).isEmpty = _
  cases by_ t <;> simp
theorem list_is {t : ByteArray} {l : List UInt8} : (t.toList == l) = decide (by_ t = l) := by
  rw [ByteArray.toList_eq]; change (by_ t == l) = _
  exact Bool.beq_eq_decide_eq _ _
/-- Does a text begin with a slash? -/
def slashB (s : ByteArray) : Bool := (by_ s).head? == some 47
theorem cut_first {s t : ByteArray} (h : (cut s 47)[0]? = some t) : slashB s = (decide (by_ t = []) && decide (1 < (cut s 47).length)) := by
  have h1 : (cutL (by_ s))[0]? = some (by_ t) := by rw [← cut_list, List.getElem?_map, h]; rfl
  have h2 : (cut s 47).length = (cutL (by_ s)).length := by rw [← cut_list, List.length_map]
  rw [h2]
  unfold slashB
  cases hs : by_ s with
  | nil => rw [hs] at h1; simp [cutL] at h1 ⊢
  | cons b l =>
    rw [hs] at h1
    by_cases hb : b = 47
    · subst hb
      rw [cutL_hit] at h1 ⊢
      have := cutL_ne l
      simp at h1 ⊢
      exact ⟨h1, List.length_pos_iff.2 this⟩
    · obtain ⟨x, r, e⟩ := cutL_ex l
      rw [cutL_miss hb e] at h1 ⊢
      simp at h1 ⊢
      simp [hb, ← h1]
theorem step_all {h h' : List ByteArray} {t : ByteArray} (hs : stepW h t = .ok h') (ha : ∀ u ∈ h, nameB u = true) (hl : h.length ≤ 6) : (∀ u ∈ h', nameB u = true) ∧ h'.length ≤ 6 := by
  unfold stepW at hs
  split at hs
  · cases hs; exact ⟨ha, hl⟩
  split at hs
  · cases hs; exact ⟨fun u hu => ha u (List.dropLast_subset _ hu), by rw [List.length_dropLast]; omega⟩
  split at hs
  · cases hs
  split at hs
  · cases hs
  · cases hs
    rename_i h3 h4
    refine ⟨fun u hu => ?_, by simp; omega⟩
    rcases List.mem_append.1 hu with hu | hu
    · exact ha u hu
    · simp at hu; subst hu; simpa using h3
def start (b t : ByteArray) : List ByteArray := if slashB t then [] else namesR b
def atO (b t : ByteArray) : ByteArray × Int :=
  if 8000 < b.size ∨ 8000 < t.size then (⟨#[]⟩, 2) else if pathB b = false then (⟨#[]⟩, 1) else
    match walkW (start b t) (cut t 47) with
    | .ok h => (glue h, 0)
    | .error c => (⟨#[]⟩, c)
theorem walk_ok {h h' : List ByteArray} {W : List ByteArray} {k : Nat} {t : ByteArray} (hk : W[k]? = some t) (hs : stepW h t = .ok h') : walkW h (W.drop k) = walkW h' (W.drop (k + 1)) := by
  have h1 := (List.getElem?_eq_some_iff.1 hk)
  rw [List.drop_eq_getElem_cons h1.1, walkW, h1.2, hs]
theorem walk_no {h : List ByteArray} {W : List ByteArray} {k : Nat} {t : ByteArray} {c : Int} (hk : W[k]? = some t) (hs : stepW h t = .error c) : walkW h (W.drop k) = .error c := by
  have h1 := (List.getElem?_eq_some_iff.1 hk)
  rw [List.drop_eq_getElem_cons h1.1, walkW, h1.2, hs]
theorem walk_end {h : List ByteArray} (W : List ByteArray) : walkW h (W.drop W.length) = .ok h := by rw [List.drop_length, walkW]
end Pl
end Go.Proofs.YtepmojmelcngeaaGreatDoor

/- Which of two lists of names is ahead. No program in sight. -/
namespace Go.Proofs.YtepmojmelcngeaaGreatDoor
namespace Pl
def lessL : List ByteArray → List ByteArray → Bool
  | [], [] => false
  | [], _ :: _ => true
  | _ :: _, [] => false
  | a :: A, b :: B => if a = b then lessL A B else Op.bytesLess a.toList b.toList
theorem less_same {A B : List ByteArray} {k : Nat} {a b : ByteArray} (ha : A[k]? = some a) (hb : B[k]? = some b) (h : a = b) : lessL (A.drop k) (B.drop k) = lessL (A.drop (k + 1)) (B.drop (k + 1)) := by
  have h1 := (List.getElem?_eq_some_iff.1 ha)
  have h2 := (List.getElem?_eq_some_iff.1 hb)
  rw [List.drop_eq_getElem_cons h1.1, List.drop_eq_getElem_cons h2.1, lessL, if_pos (by rw [h1.2, h2.2]; exact h)]
theorem less_other {A B : List ByteArray} {k : Nat} {a b : ByteArray} (ha : A[k]? = some a) (hb : B[k]? = some b) (h : a ≠ b) : lessL (A.drop k) (B.drop k) = Op.bytesLess a.toList b.toList := by
  have h1 := (List.getElem?_eq_some_iff.1 ha)
  have h2 := (List.getElem?_eq_some_iff.1 hb)
  rw [List.drop_eq_getElem_cons h1.1, List.drop_eq_getElem_cons h2.1, lessL, if_neg (by rw [h1.2, h2.2]; exact h), h1.2, h2.2]
theorem less_end {A B : List ByteArray} {k : Nat} (h : k = A.length ∧ k ≤ B.length ∨ k = B.length ∧ k ≤ A.length) : lessL (A.drop k) (B.drop k) = decide (A.length < B.length) := by
  rcases h with ⟨rfl, h⟩ | ⟨rfl, h⟩
  · rw [List.drop_length]
    by_cases hl : A.length < B.length
    · rw [List.drop_eq_getElem_cons hl]; simp [lessL, hl]
    · rw [List.drop_of_length_le (by omega)]; simp [lessL, hl]
  · rw [List.drop_length]
    have hn : ¬ A.length < B.length := by omega
    by_cases hl : B.length < A.length
    · rw [List.drop_eq_getElem_cons hl]; simp [lessL, hn]
    · rw [List.drop_of_length_le (by omega)]; simp [lessL, hn]
end Pl
end Go.Proofs.YtepmojmelcngeaaGreatDoor

