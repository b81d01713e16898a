/- Several texts of one claim in one file: PlainGetV, PlainTreeI. -/
import Derived.Test.YtepmojmelcngeaaGreatDoorG22
import Derived.Test.YtepmojmelcngeaaGreatDoorPlainTree
import Derived.Test.YtepmojmelcngeaaGreatDoorG05
/- What TreeGet answers, plainly. -/
namespace Go.Proofs.YtepmojmelcngeaaGreatDoor
open Go.RowKit
namespace Pl
/-- What TreeGet answers. -/
def getV (L : List Nd) (p : ByteArray) : Value :=
  if 8000 < p.size then .agg #[.string ⟨#[]⟩, .int .i64 0, .string ⟨#[]⟩, .int .i64 0, .int .i64 0, .int .i64 2] else if treeB L = false ∨ p.size = 0 ∨ pathB p = false then .agg #[.string ⟨#[]⟩, .int .i64 0, .string ⟨#[]⟩, .int .i64 0, .int .i64 0, .int .i64 1] else
    match L.find? (fun m => decide (m.path = p)) with | none => .agg #[.string ⟨#[]⟩, .int .i64 0, .string ⟨#[]⟩, .int .i64 0, .int .i64 0, .int .i64 6] | some m => .agg #[.string m.path, .int .i64 m.kind, .string m.data, .int .i64 m.time, .int .i64 m.mark, .int .i64 0]
theorem get_long {L : List Nd} {p : ByteArray} (h : 8000 < p.size) : getV L p = .agg #[.string ⟨#[]⟩, .int .i64 0, .string ⟨#[]⟩, .int .i64 0, .int .i64 0, .int .i64 2] := by rw [getV, if_pos h]
theorem get_form {L : List Nd} {p : ByteArray} (h : ¬ 8000 < p.size) (h2 : treeB L = false ∨ p.size = 0 ∨ pathB p = false) : getV L p = .agg #[.string ⟨#[]⟩, .int .i64 0, .string ⟨#[]⟩, .int .i64 0, .int .i64 0, .int .i64 1] := by rw [getV, if_neg h, if_pos h2]
theorem get_none {L : List Nd} {p : ByteArray} (h : ¬ 8000 < p.size) (h2 : ¬ (treeB L = false ∨ p.size = 0 ∨ pathB p = false)) (hf : L.find? (fun m => decide (m.path = p)) = none) : getV L p = .agg #[.string ⟨#[]⟩, .int .i64 0, .string ⟨#[]⟩, .int .i64 0, .int .i64 0, .int .i64 6] := by rw [getV, if_neg h, if_neg h2, hf]
theorem get_some {L : List Nd} {p : ByteArray} {m : Nd} (h : ¬ 8000 < p.size) (h2 : ¬ (treeB L = false ∨ p.size = 0 ∨ pathB p = false)) (hf : L.find? (fun m => decide (m.path = p)) = some m) : getV L p = .agg #[.string m.path, .int .i64 m.kind, .string m.data, .int .i64 m.time, .int .i64 m.mark, .int .i64 0] := by rw [getV, if_neg h, if_neg h2, hf]
theorem get_shape (L : List Nd) (p : ByteArray) : ∃ (n : Nd) (c : Int), getV L p = .agg #[.string n.path, .int .i64 n.kind, .string n.data, .int .i64 n.time, .int .i64 n.mark, .int .i64 c] := by
  unfold getV
  split
  · exact ⟨⟨⟨#[]⟩, 0, ⟨#[]⟩, 0, 0⟩, _, rfl⟩
  split
  · exact ⟨⟨⟨#[]⟩, 0, ⟨#[]⟩, 0, 0⟩, _, rfl⟩
  split
  · exact ⟨⟨⟨#[]⟩, 0, ⟨#[]⟩, 0, 0⟩, _, rfl⟩
  · exact ⟨_, _, rfl⟩
theorem tree_apart {L : List Nd} (h : treeB L = true) : L.Pairwise (fun a b => a.path ≠ b.path) := by
  have h2 : goI [] ⟨#[]⟩ L = true := by unfold treeB at h; simp at h; exact h.2
  exact (goI_rise L [] ⟨#[]⟩ h2 (right_root rfl).1).1.imp (fun {a b} hab e => by rw [e, less_irr] at hab; cases hab)
end Pl
end Go.Proofs.YtepmojmelcngeaaGreatDoor

/- What a right tree is. -/
namespace Go.Proofs.YtepmojmelcngeaaGreatDoor
namespace Pl
theorem find_path {L : List Nd} {p : ByteArray} {m : Nd} (h : L.find? (fun m => decide (m.path = p)) = some m) : m.path = p := by
  have := List.find?_some h
  simpa using this
theorem goS_iff (L : List Nd) : ∀ (r : List Nd) (prev : Option ByteArray), goS L prev r = true ↔ (∀ n ∈ r, nodeB n = true ∧ dirS L (parent n.path) = true) ∧ r.Pairwise (fun a b => lessL (names a.path) (names b.path) = true) ∧ ∀ n ∈ r, prevB prev n.path = true := by
  intro r
  induction r with
  | nil => intro prev; simp [goS]
  | cons m r ih =>
    intro prev
    simp only [goS, Bool.and_eq_true]
    rw [ih]
    constructor
    · rintro ⟨⟨⟨h1, h2⟩, h3⟩, h4, h5, h6⟩
      refine ⟨fun n hn => ?_, List.Pairwise.cons (fun n hn => h6 n hn) h5, fun n hn => ?_⟩
      · rcases List.mem_cons.1 hn with rfl | hn
        · exact ⟨h1, h3⟩
        · exact h4 n hn
      · rcases List.mem_cons.1 hn with rfl | hn
        · exact h2
        · cases prev with
          | none => rfl
          | some q => exact less_trans _ _ _ h2 (h6 n hn)
    · rintro ⟨h1, h2, h3⟩
      obtain ⟨h4, h5⟩ := List.pairwise_cons.1 h2
      exact ⟨⟨⟨(h1 m (List.mem_cons_self ..)).1, h3 m (List.mem_cons_self ..)⟩, (h1 m (List.mem_cons_self ..)).2⟩, fun n hn => h1 n (List.mem_cons_of_mem _ hn), h5, fun n hn => h4 n hn⟩
theorem tree_iff (L : List Nd) : treeB L = true ↔ L.length ≤ 40 ∧ (∀ n ∈ L, nodeB n = true ∧ dirS L (parent n.path) = true) ∧ L.Pairwise (fun a b => lessL (names a.path) (names b.path) = true) := by
  rw [treeB, ← tree_same, Bool.and_eq_true, decide_eq_true_eq, goS_iff]
  constructor
  · rintro ⟨h1, h2, h3, -⟩; exact ⟨h1, h2, h3⟩
  · rintro ⟨h1, h2, h3⟩; exact ⟨h1, h2, h3, fun n hn => rfl⟩
theorem dirS_iff {L : List Nd} (h : L.Pairwise (fun a b => lessL (names a.path) (names b.path) = true)) (p : ByteArray) : dirS L p = true ↔ p.size = 0 ∨ ∃ m ∈ L, m.path = p ∧ m.kind = 1 := by
  simp only [dirS, Bool.or_eq_true, decide_eq_true_eq]
  refine or_congr Iff.rfl ?_
  cases hf : L.find? (fun m => decide (m.path = p)) with
  | none =>
    rw [List.find?_eq_none] at hf
    constructor
    · intro h; cases h
    · rintro ⟨m, hm, e, _⟩; exact absurd (decide_eq_true e) (hf m hm)
  | some m' =>
    have h1 := List.mem_of_find?_eq_some hf
    have h2 := find_path hf
    simp only [decide_eq_true_eq]
    constructor
    · intro h3; exact ⟨m', h1, h2, h3⟩
    · rintro ⟨m, hm, e, hk⟩
      rw [one_path h h1 hm (h2.trans e.symm)]; exact hk
theorem less_of {L : List Nd} (hL : ∀ m ∈ L, pathB m.path = true) (h : L.Pairwise (fun a b => ltP a.path b.path = true)) : L.Pairwise (fun a b => lessL (names a.path) (names b.path) = true) :=
  List.Pairwise.imp_of_mem (fun {a b} ha hb hab => by rw [ltP_right (hL a ha) (hL b hb)] at hab; exact hab) h
end Pl
end Go.Proofs.YtepmojmelcngeaaGreatDoor

