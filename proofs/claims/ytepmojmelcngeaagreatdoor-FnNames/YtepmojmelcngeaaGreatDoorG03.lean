/- Several texts of one claim in one file: PlainLaw, PlainNode. -/
import Derived.Test.YtepmojmelcngeaaGreatDoorG02
/- What the laws of chapter 3 ask of paths. No program in sight. -/
namespace Go.Proofs.YtepmojmelcngeaaGreatDoor
namespace Pl
theorem bytesLess_anti : ∀ a b : List UInt8, a ≠ b → Op.bytesLess a b = !Op.bytesLess b a := by
  intro a
  induction a with
  | nil => intro b h; cases b with
    | nil => exact absurd rfl h
    | cons c b => rfl
  | cons x a ih =>
    intro b h
    cases b with
    | nil => rfl
    | cons y b =>
      simp only [Op.bytesLess]
      by_cases hxy : x = y
      · subst hxy
        have hab : a ≠ b := fun e => h (by rw [e])
        rw [ih b hab]; simp
      · have h1 : (x == y) = false := by simpa using hxy
        have h2 : (y == x) = false := by simpa using fun e : y = x => hxy e.symm
        rw [h1, h2]
        simp only [Bool.false_and, Bool.or_false]
        by_cases hlt : x < y
        · have : ¬ y < x := by rw [UInt8.lt_iff_toNat_lt] at hlt ⊢; omega
          simp [hlt, this]
        · have : y < x := by
            rw [UInt8.lt_iff_toNat_lt] at hlt ⊢
            have : x.toNat ≠ y.toNat := fun e => hxy (UInt8.toNat_inj.1 e)
            omega
          simp [hlt, this]
theorem less_anti : ∀ A B : List ByteArray, A ≠ B → lessL A B = !lessL B A := by
  intro A
  induction A with
  | nil => intro B h; cases B with
    | nil => exact absurd rfl h
    | cons b B => rfl
  | cons a A ih =>
    intro B h
    cases B with
    | nil => rfl
    | cons b B =>
      rw [lessL, lessL]
      by_cases hab : a = b
      · subst hab
        rw [if_pos rfl, if_pos rfl]
        exact ih B (fun e => h (by rw [e]))
      · rw [if_neg hab, if_neg (fun e => hab e.symm)]
        refine bytesLess_anti _ _ ?_
        rw [ByteArray.toList_eq, ByteArray.toList_eq]
        exact fun e => hab (by_inj e)
theorem less_under : ∀ A B : List ByteArray, (∀ (j : Nat) t, B[j]? = some t → A[j]? = some t) → lessL A B = false := by
  intro A
  induction A with
  | nil => intro B h; cases B with
    | nil => rfl
    | cons b B => have := h 0 b rfl; cases this
  | cons a A ih =>
    intro B h
    cases B with
    | nil => rfl
    | cons b B =>
      have h0 := h 0 b rfl
      simp at h0
      subst h0
      rw [lessL, if_pos rfl]
      exact ih B (fun j t ht => by have := h (j + 1) t (by simpa using ht); simpa using this)
theorem less_more : ∀ (A : List ByteArray) (n : ByteArray), lessL A (A ++ [n]) = true := by
  intro A n
  induction A with
  | nil => rfl
  | cons a A ih => rw [List.cons_append, lessL, if_pos rfl]; exact ih
theorem glue_namesR {p : ByteArray} (h : pathB p = true) : glue (namesR p) = p := by rw [namesR_yes h, glue_names]
theorem namesR_glue {L : List ByteArray} (h : ∀ t ∈ L, nameB t = true) (h6 : L.length ≤ 6) : namesR (glue L) = L := by
  rw [namesR_yes (pathB_glue h h6), names_glue h]
theorem glue_one (n : ByteArray) : glue [n] = n := by apply by_inj; rw [by_glue]; rfl
theorem path_inj {a b : ByteArray} (ha : pathB a = true) (hb : pathB b = true) (h : namesR a = namesR b) : a = b := by
  rw [← glue_namesR ha, ← glue_namesR hb, h]
theorem under_self (A B : List ByteArray) : underR (A ++ B) A = true := by
  rw [underR_iff]
  intro j t ht
  rw [List.getElem?_append_left (List.getElem?_eq_some_iff.1 ht).1]; exact ht
/-- FnPath: what is joined. -/
theorem join_ok {p n : ByteArray} (h : (joinO p n).2 = 0) : pathB p = true ∧ nameB n = true ∧ (namesR p).length ≤ 5 ∧ (joinO p n).1 = glue (namesR p ++ [n]) := by
  unfold joinO at h ⊢
  split at h
  · cases h
  split at h
  · cases h
  split at h
  · cases h
  rename_i h1 h2 h3
  rw [if_neg h1, if_neg h2, if_neg h3]
  have h4 : pathB p = true ∧ nameB n = true := Classical.byContradiction (fun e => h2 e)
  have := (namesR_all p).2
  exact ⟨h4.1, h4.2, by omega, rfl⟩
theorem join_law {p n : ByteArray} (h : (joinO p n).2 = 0) :
    glue (namesR (joinO p n).1).dropLast = p ∧ glue ((namesR (joinO p n).1).drop ((namesR (joinO p n).1).length - 1)) = n ∧
    (pathB (joinO p n).1 && pathB p && underR (namesR (joinO p n).1) (namesR p)) = true ∧ (pathB p && pathB (joinO p n).1 && lessL (namesR p) (namesR (joinO p n).1)) = true ∧ (joinO p n).1.size ≤ 1000 := by
  obtain ⟨h1, h2, h3, h4⟩ := join_ok h
  have ha : ∀ t ∈ namesR p ++ [n], nameB t = true := by
    intro t ht
    rcases List.mem_append.1 ht with ht | ht
    · exact (namesR_all p).1 t ht
    · simp at ht; subst ht; exact h2
  have hl : (namesR p ++ [n]).length ≤ 6 := by rw [List.length_append]; simp; omega
  have e1 := namesR_glue ha hl
  have e2 := pathB_glue ha hl
  have e3 := glue_size (namesR p ++ [n]) (fun t ht => (name_free (ha t ht)).2.2.2)
  rw [h4, e1, e2, h1]
  refine ⟨by rw [List.dropLast_concat]; exact glue_namesR h1, ?_, by rw [under_self]; rfl, by rw [less_more]; rfl, by omega⟩
  have : (namesR p ++ [n]).length - 1 = (namesR p).length := by rw [List.length_append]; simp
  rw [this, List.drop_left]; exact glue_one n
theorem join_size (p n : ByteArray) : (joinO p n).1.size ≤ 1000 := by
  by_cases h : (joinO p n).2 = 0
  · exact (join_law h).2.2.2.2
  · unfold joinO at h ⊢
    split
    · exact Nat.zero_le _
    split
    · exact Nat.zero_le _
    split
    · exact Nat.zero_le _
    · rename_i h1 h2 h3; rw [if_neg h1, if_neg h2, if_neg h3] at h; exact absurd rfl h
theorem under_less (u t : ByteArray) : (pathB u && pathB t && underR (namesR u) (namesR t)) = true → (pathB u && pathB t && lessL (namesR u) (namesR t)) = false := by
  intro h
  simp only [Bool.and_eq_true] at h
  rw [less_under _ _ ((underR_iff _ _).1 h.2)]; simp
theorem two_less {a b : ByteArray} (ha : pathB a = true) (hb : pathB b = true) (h : a ≠ b) : (pathB a && pathB b && lessL (namesR a) (namesR b)) = !(pathB b && pathB a && lessL (namesR b) (namesR a)) := by
  rw [ha, hb, Bool.true_and, Bool.true_and, Bool.true_and]
  exact less_anti _ _ (fun e => h (path_inj ha hb e))
/-- FnRest. -/
theorem rest_ok {p t : ByteArray} (hp : p.size ≤ 100) (ht : t.size ≤ 100) : ((restO p t).2 = 0 ↔ (pathB p && pathB t && underR (namesR p) (namesR t)) = true) := by
  unfold restO
  rw [if_neg (by omega)]
  by_cases h1 : pathB p = true ∧ pathB t = true
  · rw [if_neg (by simpa using h1), h1.1, h1.2]
    cases h2 : underR (namesR p) (namesR t)
    · rw [if_pos rfl]; simp
    · rw [if_neg (by simp)]; simp
  · rw [if_pos h1]
    constructor
    · intro h; cases h
    · intro h
      simp only [Bool.and_eq_true] at h
      exact absurd h.1 h1
theorem rest_law {p t : ByteArray} (hp : p.size ≤ 100) (ht : t.size ≤ 100) (h : (restO p t).2 = 0) : bothO t (restO p t).1 = (p, 0) ∧ (restO p t).1.size ≤ 1000 := by
  have hu := (rest_ok hp ht).1 h
  simp only [Bool.and_eq_true] at hu
  obtain ⟨⟨h1, h2⟩, h3⟩ := hu
  have e : (restO p t).1 = glue ((namesR p).drop (namesR t).length) := by
    unfold restO
    rw [if_neg (by omega), if_neg (by simp [h1, h2]), if_neg (by simp [h3])]
  rw [e]
  have ha : ∀ u ∈ (namesR p).drop (namesR t).length, nameB u = true := all_drop (namesR_all p).1 _
  have hl : ((namesR p).drop (namesR t).length).length ≤ 6 := by have := (namesR_all p).2; rw [List.length_drop]; omega
  have e1 := namesR_glue ha hl
  have e2 := pathB_glue ha hl
  have e3 := glue_size _ (fun u hu => (name_free (ha u hu)).2.2.2)
  have hle := underR_length h3
  have hcat : namesR t ++ (namesR p).drop (namesR t).length = namesR p := by
    have : namesR t = (namesR p).take (namesR t).length := by
      apply List.ext_getElem?
      intro j
      by_cases hj : j < (namesR t).length
      · rw [List.getElem?_take_of_lt hj, List.getElem?_eq_getElem hj, (underR_iff _ _).1 h3 j _ (List.getElem?_eq_getElem hj)]
      · rw [List.getElem?_eq_none (by omega), List.getElem?_eq_none (by simp; omega)]
    conv => lhs; lhs; rw [this]
    rw [List.take_append_drop]
  refine ⟨?_, by omega⟩
  unfold bothO
  have h6 := (namesR_all p).2
  rw [if_neg (by omega), if_neg (by simp [h2, e2]), e1, if_neg (by rw [List.length_drop]; omega), hcat, glue_namesR h1]
theorem both_law {a b : ByteArray} (ha : a.size ≤ 100) (hb : b.size ≤ 100) (h : (bothO a b).2 = 0) : restO (bothO a b).1 a = (b, 0) := by
  unfold bothO at h
  rw [if_neg (by omega)] at h
  split at h
  · cases h
  split at h
  · cases h
  rename_i h1 h2
  have h3 : pathB a = true ∧ pathB b = true := Classical.byContradiction h1
  have e : (bothO a b).1 = glue (namesR a ++ namesR b) := by unfold bothO; rw [if_neg (by omega), if_neg h1, if_neg h2]
  rw [e]
  have hx : ∀ u ∈ namesR a ++ namesR b, nameB u = true := by
    intro t ht
    rcases List.mem_append.1 ht with ht | ht
    · exact (namesR_all a).1 t ht
    · exact (namesR_all b).1 t ht
  have hl : (namesR a ++ namesR b).length ≤ 6 := by rw [List.length_append]; omega
  have e1 := namesR_glue hx hl
  have e2 := pathB_glue hx hl
  have e3 := glue_size _ (fun u hu => (name_free (hx u hu)).2.2.2)
  unfold restO
  rw [if_neg (by omega), if_neg (by simp [h3.1, e2]), e1, if_neg (by rw [under_self]; simp), List.drop_left, glue_namesR h3.2]
theorem both_size (a b : ByteArray) : (bothO a b).1.size ≤ 1000 := by
  unfold bothO
  split
  · exact Nat.zero_le _
  split
  · exact Nat.zero_le _
  split
  · exact Nat.zero_le _
  rename_i h2
  have := glue_size (namesR a ++ namesR b) (fun u hu => by
    rcases List.mem_append.1 hu with ht | ht
    · exact (name_free ((namesR_all a).1 u ht)).2.2.2
    · exact (name_free ((namesR_all b).1 u ht)).2.2.2)
  rw [List.length_append] at this
  show (glue (namesR a ++ namesR b)).size ≤ 1000
  omega
theorem rest_size (a b : ByteArray) : (restO a b).1.size ≤ 1000 := by
  unfold restO
  split
  · exact Nat.zero_le _
  split
  · exact Nat.zero_le _
  split
  · exact Nat.zero_le _
  have h6 := (namesR_all a).2
  have := glue_size ((namesR a).drop (namesR b).length) (fun u hu => (name_free ((namesR_all a).1 u (List.mem_of_mem_drop hu))).2.2.2)
  rw [List.length_drop] at this
  show (glue ((namesR a).drop (namesR b).length)).size ≤ 1000
  omega
end Pl
end Go.Proofs.YtepmojmelcngeaaGreatDoor

/- Nodes, and whether they are right. No program in sight but its values. -/
namespace Go.Proofs.YtepmojmelcngeaaGreatDoor
namespace Pl
structure Nd where
  path : ByteArray
  kind : Int
  data : ByteArray
  time : Int
  mark : Int
def Nd.cells (n : Nd) : List Value := [.string n.path, .int .i64 n.kind, .string n.data, .int .i64 n.time, .int .i64 n.mark]
def Nd.val (n : Nd) : Value := .agg #[.string n.path, .int .i64 n.kind, .string n.data, .int .i64 n.time, .int .i64 n.mark]
def kindB (n : Nd) : Bool :=
  if n.kind = 0 then decide (n.data.size = 0) && decide (n.time = 0) && decide (1 ≤ n.mark)
  else if n.kind = 1 then decide (n.data.size = 0)
  else if n.kind = 2 then decide (n.mark = 0) else false
def nodeB (n : Nd) : Bool := decide (n.path.size ≠ 0) && pathB n.path && decide (n.data.size ≤ 60) && decide (0 ≤ n.time ∧ n.time ≤ 1000000) && decide (0 ≤ n.mark ∧ n.mark ≤ 8) && kindB n
theorem node_root {n : Nd} (h : n.path.size = 0) : nodeB n = false := by simp [nodeB, h]
theorem node_path {n : Nd} (h : pathB n.path = false) : nodeB n = false := by simp [nodeB, h]
theorem node_data {n : Nd} (h : 60 < n.data.size) : nodeB n = false := by
  have : decide (n.data.size ≤ 60) = false := by simp; omega
  simp [nodeB, this]
theorem node_time {n : Nd} (h : ¬ (0 ≤ n.time ∧ n.time ≤ 1000000)) : nodeB n = false := by
  have : decide (0 ≤ n.time ∧ n.time ≤ 1000000) = false := by simpa using h
  unfold nodeB; rw [this]; simp
theorem node_mark {n : Nd} (h : ¬ (0 ≤ n.mark ∧ n.mark ≤ 8)) : nodeB n = false := by
  have : decide (0 ≤ n.mark ∧ n.mark ≤ 8) = false := by simpa using h
  unfold nodeB; rw [this]; simp
theorem node_kind {n : Nd} (h0 : n.path.size ≠ 0) (h1 : pathB n.path = true) (h2 : n.data.size ≤ 60) (h3 : 0 ≤ n.time ∧ n.time ≤ 1000000) (h4 : 0 ≤ n.mark ∧ n.mark ≤ 8) : nodeB n = kindB n := by
  have e3 : decide (0 ≤ n.time ∧ n.time ≤ 1000000) = true := by simpa using h3
  have e4 : decide (0 ≤ n.mark ∧ n.mark ≤ 8) = true := by simpa using h4
  unfold nodeB; rw [e3, e4]; simp [h0, h1, h2]
/-- What a node has in it, whatever its path is. -/
def contB (n : Nd) : Bool := decide (n.data.size ≤ 60) && decide (0 ≤ n.time ∧ n.time ≤ 1000000) && decide (0 ≤ n.mark ∧ n.mark ≤ 8) && kindB n
theorem cont_data {n : Nd} (h : 60 < n.data.size) : contB n = false := by
  have : decide (n.data.size ≤ 60) = false := by simp; omega
  simp [contB, this]
theorem cont_time {n : Nd} (h : ¬ (0 ≤ n.time ∧ n.time ≤ 1000000)) : contB n = false := by
  have : decide (0 ≤ n.time ∧ n.time ≤ 1000000) = false := by simpa using h
  unfold contB; rw [this]; simp
theorem cont_mark {n : Nd} (h : ¬ (0 ≤ n.mark ∧ n.mark ≤ 8)) : contB n = false := by
  have : decide (0 ≤ n.mark ∧ n.mark ≤ 8) = false := by simpa using h
  unfold contB; rw [this]; simp
theorem cont_kind {n : Nd} (h2 : n.data.size ≤ 60) (h3 : 0 ≤ n.time ∧ n.time ≤ 1000000) (h4 : 0 ≤ n.mark ∧ n.mark ≤ 8) : contB n = kindB n := by
  have e3 : decide (0 ≤ n.time ∧ n.time ≤ 1000000) = true := by simpa using h3
  have e4 : decide (0 ≤ n.mark ∧ n.mark ≤ 8) = true := by simpa using h4
  unfold contB; rw [e3, e4]; simp [h2]
theorem node_cont {n : Nd} (h0 : n.path.size ≠ 0) (h1 : pathB n.path = true) : nodeB n = contB n := by
  unfold nodeB contB; simp [h0, h1, Bool.and_assoc]
end Pl
end Go.Proofs.YtepmojmelcngeaaGreatDoor

