/- What SeenAt answers. -/
import Derived.Test.YtkfpfckmjgjanabDoorWSeenI
namespace Go.Proofs.YtkfpfckmjgjanabDoor
open Go.RowKit
namespace Pl
def seenV (Ls : List (List Nd)) (p : ByteArray) : Value :=
  if 8000 < p.size then .agg #[.string ⟨#[]⟩, .int .i64 0, .string ⟨#[]⟩, .int .i64 0, .int .i64 0, .int .i64 2] else if layB Ls = false ∨ p.size = 0 ∨ pathB p = false then .agg #[.string ⟨#[]⟩, .int .i64 0, .string ⟨#[]⟩, .int .i64 0, .int .i64 0, .int .i64 1] else
    if (seenS Ls p).told = true then .agg #[.string (seenS Ls p).node.path, .int .i64 (seenS Ls p).node.kind, .string (seenS Ls p).node.data, .int .i64 (seenS Ls p).node.time, .int .i64 (seenS Ls p).node.mark, .int .i64 0] else .agg #[.string ⟨#[]⟩, .int .i64 0, .string ⟨#[]⟩, .int .i64 0, .int .i64 0, .int .i64 6]
theorem seen_long {Ls : List (List Nd)} {p : ByteArray} (h : 8000 < p.size) : seenV Ls p = .agg #[.string ⟨#[]⟩, .int .i64 0, .string ⟨#[]⟩, .int .i64 0, .int .i64 0, .int .i64 2] := by rw [seenV, if_pos h]
theorem seen_form {Ls : List (List Nd)} {p : ByteArray} (h : ¬ 8000 < p.size) (h2 : layB Ls = false ∨ p.size = 0 ∨ pathB p = false) : seenV Ls p = .agg #[.string ⟨#[]⟩, .int .i64 0, .string ⟨#[]⟩, .int .i64 0, .int .i64 0, .int .i64 1] := by rw [seenV, if_neg h, if_pos h2]
theorem seen_end {Ls : List (List Nd)} {p : ByteArray} (h : ¬ 8000 < p.size) (h2 : layB Ls = true) (h3 : ¬ p.size = 0) (h4 : pathB p = true) : seenV Ls p = if (seenS Ls p).told = true then .agg #[.string (seenS Ls p).node.path, .int .i64 (seenS Ls p).node.kind, .string (seenS Ls p).node.data, .int .i64 (seenS Ls p).node.time, .int .i64 (seenS Ls p).node.mark, .int .i64 0] else .agg #[.string ⟨#[]⟩, .int .i64 0, .string ⟨#[]⟩, .int .i64 0, .int .i64 0, .int .i64 6] := by
  rw [seenV, if_neg h, if_neg (by simp [h2, h3, h4])]
theorem lay_ok {Ls : List (List Nd)} (h : layB Ls = true) : Ls.length ≤ 4 ∧ ∀ L ∈ Ls, treeB L = true := by
  simp only [layB, Bool.and_eq_true, decide_eq_true_eq, List.all_eq_true] at h
  exact ⟨h.1.2, h.2⟩
/-- A sight whose node is not too long. -/
def smallS (s : Sg) : Prop := s.node.path.size ≤ 1048576 ∧ s.node.data.size ≤ 1048576
def smallN (n : Nd) : Prop := n.path.size ≤ 1048576 ∧ n.data.size ≤ 1048576
theorem zero_small : smallS Sg.zero := ⟨by decide, by decide⟩
theorem take_small {s : Sg} {k : Nat} {n : Nd} (h : smallS s) (hn : smallN n) : smallS (takeS s k n) := by
  unfold smallS takeS markMax
  cases s.told
  · exact hn
  · exact h
theorem go_small : ∀ (ns : List (Option Nd)), (∀ n, some n ∈ ns → smallN n) → ∀ (k : Nat) (s : Sg), smallS s → smallS (goD k s ns) := by
  intro ns
  induction ns with
  | nil => intro _ k s h; exact h
  | cons x ns ih =>
    intro hn k s h
    have hn' : ∀ n, some n ∈ ns → smallN n := fun n hm => hn n (List.mem_cons_of_mem _ hm)
    cases x with
    | none => exact ih hn' _ _ h
    | some n =>
      have h2 := take_small (k := k) h (hn n List.mem_cons_self)
      rw [goD]
      split
      · exact h2
      · exact ih hn' _ _ h2
theorem up_small {s : Sg} (h : smallS s) : smallS (upS s) := by
  unfold upS
  split
  · exact zero_small
  · exact h
theorem ns_mem : ∀ (ab : List Bool) (Ls : List (List Nd)) (p : ByteArray) (n : Nd), some n ∈ nsOf ab Ls p → ∃ L ∈ Ls, n ∈ L := by
  intro ab
  induction ab with
  | nil => intro Ls p n h; simp [nsOf] at h
  | cons a ab ih =>
    intro Ls p n h
    cases Ls with
    | nil => simp [nsOf] at h
    | cons L Ls =>
      rw [nsOf] at h
      rcases List.mem_cons.1 h with h | h
      · cases a
        · simp at h
        · simp only [if_true] at h
          exact ⟨L, List.mem_cons_self, by
            have h2 := h.symm
            unfold lk at h2
            exact List.mem_of_find?_eq_some h2⟩
      · obtain ⟨M, hM, hn⟩ := ih Ls p n h
        exact ⟨M, List.mem_cons_of_mem _ hM, hn⟩
theorem seen_small {Ls : List (List Nd)} (htr : ∀ L ∈ Ls, treeB L = true) (p : ByteArray) : smallS (seenS Ls p) := by
  have hstep : ∀ (s : Sg) (q : ByteArray), smallS (decS (nsOf s.have' Ls q)) := fun s q => by
    apply up_small
    apply go_small
    · intro n hn
      obtain ⟨L, hL, hm⟩ := ns_mem _ _ _ _ hn
      have h1 := htr L hL
      simp only [treeB, Bool.and_eq_true, decide_eq_true_eq] at h1
      have h2 := goI_all L _ _ h1.2 n hm
      have h3 := pathB_le (node_right h2).1
      have h4 := (node_bounds h2).1
      exact ⟨by omega, by omega⟩
    · exact zero_small
  unfold seenS
  generalize ways (namesR p) (namesR p).length = ps
  rcases List.eq_nil_or_concat ps with rfl | ⟨qs, q, rfl⟩
  · exact zero_small
  · rw [List.concat_eq_append, walk_snoc]; exact hstep _ _
end Pl
end Go.Proofs.YtkfpfckmjgjanabDoor
