/- Parents, last names, what lies under what, rests, and the way of a text. No Go in sight. -/
import Derived.Test.YtgdfadibdioedaaDoorPlainGlue
namespace Go.Proofs.YtgdfadibdioedaaDoor
namespace Pl
theorem by_take_succ (s : ByteArray) (k : Nat) (h : k < s.size) : (by_ s).take (k + 1) = (by_ s).take k ++ [s[k]] := take_snoc s k h
theorem slash_split (s : ByteArray) : ∀ k, k ≤ s.size → ((47 : UInt8) ∉ (by_ s).take k ∧ slashTo s k = -1) ∨ ∃ a b, (by_ s).take k = a ++ 47 :: b ∧ (47 : UInt8) ∉ b ∧ slashTo s k = (a.length : Int) := by
  intro k
  induction k with
  | zero => intro _; left; simp [slashTo]
  | succ k ih =>
    intro hk
    have hlt : k < s.size := by omega
    have ih := ih (by omega)
    rw [by_take_succ s k hlt]
    by_cases hb : s[k].toNat = 47
    · right
      have hb' : s[k] = 47 := UInt8.toNat_inj.1 hb
      refine ⟨(by_ s).take k, [], by rw [hb'], by simp, ?_⟩
      rw [slash_hit hlt hb, List.length_take, by_length, Nat.min_eq_left (by omega)]
    · have hb' : s[k] ≠ 47 := fun e => hb (by rw [e]; rfl)
      rw [slash_miss hlt hb]
      rcases ih with ⟨h1, h2⟩ | ⟨a, b, h1, h2, h3⟩
      · left
        refine ⟨?_, h2⟩
        rw [List.mem_append, not_or]
        exact ⟨h1, by simpa using fun e => hb' e.symm⟩
      · right
        refine ⟨a, b ++ [s[k]], by rw [h1]; simp, ?_, h3⟩
        rw [List.mem_append, not_or]
        exact ⟨h2, by simpa using fun e => hb' e.symm⟩
/-- Either there is no slash, or the last one is there. -/
theorem slash_parts (s : ByteArray) : ((47 : UInt8) ∉ by_ s ∧ slashTo s s.size = -1) ∨ ∃ a b, by_ s = a ++ 47 :: b ∧ (47 : UInt8) ∉ b ∧ slashTo s s.size = (a.length : Int) := by
  have h := slash_split s s.size (Nat.le_refl _)
  rwa [List.take_of_length_le (by rw [by_length]; exact Nat.le_refl _)] at h
theorem namesL_split {l a b : List UInt8} (h : l = a ++ 47 :: b) : namesL l = cutL a ++ cutL b := by
  subst h; rw [namesL, if_neg (by simp), cutL_append]
theorem namesL_free {l : List UInt8} (h : (47 : UInt8) ∉ l) : namesL l = if l = [] then [] else [l] := by
  rw [namesL]; split
  · rfl
  · exact cutL_free h
/-- The last name of a path. -/
def base (s : ByteArray) : ByteArray := s.extract (slashTo s s.size + 1).toNat s.size
theorem parent_glue (s : ByteArray) : parent s = glue (names s).dropLast := by
  apply by_inj
  rw [by_glue, List.map_dropLast, names_list]
  unfold parent
  rcases slash_parts s with ⟨h1, h2⟩ | ⟨a, b, h1, h2, h3⟩
  · rw [h2, if_pos (by omega), namesL_free h1]
    split <;> rfl
  · rw [h3, if_neg (by omega), by_extract, namesL_split h1, cutL_free h2, List.dropLast_concat, glue_cutL, h1]
    simp
theorem base_glue (s : ByteArray) : base s = glue ((names s).drop ((names s).length - 1)) := by
  apply by_inj
  have hl : (names s).length = (namesL (by_ s)).length := by rw [← names_list, List.length_map]
  rw [by_glue, List.map_drop, names_list, hl]
  unfold base
  rcases slash_parts s with ⟨h1, h2⟩ | ⟨a, b, h1, h2, h3⟩
  · rw [h2, by_extract, namesL_free h1]
    have e : List.take (s.size - ((-1 : Int) + 1).toNat) (List.drop ((-1 : Int) + 1).toNat (by_ s)) = by_ s := by
      simp [← by_length]
    rw [e]
    split
    · next h => rw [h]; rfl
    · rfl
  · rw [h3, by_extract, namesL_split h1, cutL_free h2]
    have h4 : ((a.length : Int) + 1).toNat = a.length + 1 := by omega
    have h5 : s.size = a.length + 1 + b.length := by rw [← by_length, h1]; simp; omega
    rw [h4, h5, h1]
    simp [glueL]
theorem drop_last {α : Type} (L : List α) : L.take (L.length - 1) = L.dropLast := by rw [List.dropLast_eq_take]
/-- Is a path another one, or under it: by names. -/
def under (p t : ByteArray) : Bool := ((names t).map by_).isPrefixOf ((names p).map by_)
theorem under_iff (p t : ByteArray) : under p t = true ↔ (by_ t = [] ∨ by_ p = by_ t ∨ ∃ r, by_ p = by_ t ++ 47 :: r) := by
  unfold under
  rw [List.isPrefixOf_iff_prefix, names_list, names_list]
  constructor
  · rintro ⟨R, e⟩
    by_cases ht : by_ t = []
    · exact .inl ht
    · right
      have e2 := congrArg glueL e
      by_cases hr : R = []
      · left
        subst hr
        rw [List.append_nil, glue_namesL, glue_namesL] at e2
        exact e2.symm
      · right
        rw [glueL_append (by rw [namesL, if_neg ht]; exact cutL_ne _) hr, glue_namesL, glue_namesL] at e2
        exact ⟨_, e2.symm⟩
  · rintro (h | h | ⟨r, h⟩)
    · rw [h]; exact List.nil_prefix
    · rw [h]; exact List.prefix_refl _
    · by_cases ht : by_ t = []
      · rw [ht]; exact List.nil_prefix
      · refine ⟨cutL r, ?_⟩
        rw [namesL_split h, namesL, if_neg ht]
/-- What a path has behind another one. -/
def rest (p t : ByteArray) : ByteArray := glue ((names p).drop (names t).length)
theorem rest_root {p t : ByteArray} (h : by_ t = []) : rest p t = p := by
  have : names t = [] := by apply map_by_inj; rw [names_list, h]; rfl
  rw [rest, this]; exact glue_names p
theorem rest_same (p : ByteArray) : rest p p = ⟨#[]⟩ := by
  rw [rest, List.drop_length]; rfl
theorem rest_more {p t : ByteArray} {r : List UInt8} (ht : by_ t ≠ []) (h : by_ p = by_ t ++ 47 :: r) : rest p t = p.extract (t.size + 1) p.size := by
  have h1 : (names p).map by_ = (names t).map by_ ++ cutL r := by
    rw [names_list, names_list, namesL_split h, namesL, if_neg ht]
  apply by_inj
  rw [rest, by_glue, List.map_drop, h1, ← List.length_map (f := by_) (as := names t), List.drop_left, glue_cutL, by_extract, h]
  have h2 : p.size = t.size + 1 + r.length := by rw [← by_length, h, List.length_append, List.length_cons, by_length]; omega
  have h3 : t.size = (by_ t).length := (by_length t).symm
  rw [h2, h3]; simp
/-- The names of two, one behind the other. -/
def both (t p : ByteArray) : ByteArray := glue (names t ++ names p)
theorem both_none {t p : ByteArray} (h : by_ t = [] ∨ by_ p = []) : both t p = t ++ p := by
  apply by_inj
  rw [both, by_glue, List.map_append, names_list, names_list]
  have e : by_ (t ++ p) = by_ t ++ by_ p := by simp [by_]
  rw [e]
  rcases h with h | h
  · rw [h]; simp [namesL]; exact glue_namesL _
  · rw [h]; simp [namesL]; exact glue_namesL _
theorem both_two {t p : ByteArray} (h1 : by_ t ≠ []) (h2 : by_ p ≠ []) : by_ (both t p) = by_ t ++ 47 :: by_ p := by
  rw [both, by_glue, List.map_append, names_list, names_list, glueL_append (by rw [namesL, if_neg h1]; exact cutL_ne _) (by rw [namesL, if_neg h2]; exact cutL_ne _), glue_namesL, glue_namesL]
/-- A path and a name. -/
def joinN (p n : ByteArray) : ByteArray := glue (names p ++ [n])
theorem joinN_root {p n : ByteArray} (h : by_ p = []) : joinN p n = n := by
  apply by_inj
  rw [joinN, by_glue, List.map_append, names_list, h]; rfl
theorem joinN_two {p n : ByteArray} (h : by_ p ≠ []) : by_ (joinN p n) = by_ p ++ 47 :: by_ n := by
  rw [joinN, by_glue, List.map_append, names_list, glueL_append (by rw [namesL, if_neg h]; exact cutL_ne _) (by simp), glue_namesL]; rfl
/-- One word of a text, from names on: the names behind it, or why not. -/
def stepW (h : List ByteArray) (t : ByteArray) : Except Int (List ByteArray) :=
  if by_ t = [] ∨ by_ t = [46] then .ok h
  else if by_ t = [46, 46] then .ok h.dropLast
  else if nameB t = false then .error 3
  else if h.length = 6 then .error 9
  else .ok (h ++ [t])
def walkW (h : List ByteArray) : List ByteArray → Except Int (List ByteArray)
  | [] => .ok h
  | t :: ts => match stepW h t with | .ok h' => walkW h' ts | .error c => .error c
end Pl
end Go.Proofs.YtgdfadibdioedaaDoor
