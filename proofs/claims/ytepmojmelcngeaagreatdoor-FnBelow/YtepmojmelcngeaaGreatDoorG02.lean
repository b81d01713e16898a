/- Several texts of one claim in one file: PlainPut, PlainOff. -/
import Derived.Test.YtepmojmelcngeaaGreatDoorG01
/- A node in its place in a list that rises. No program in sight. -/
namespace Go.Proofs.YtepmojmelcngeaaGreatDoor
namespace Pl
def restP (p : ByteArray) : List Nd → List Nd
  | [] => []
  | m :: R => if m.path = p then R else m :: R
def aheadP (n m : Nd) : Bool := lessL (names m.path) (names n.path)
def putL (L : List Nd) (n : Nd) : List Nd := L.takeWhile (aheadP n) ++ n :: restP n.path (L.dropWhile (aheadP n))
theorem put_at (L : List Nd) (n : Nd) (k : Nat) (hk : k ≤ L.length) (h1 : ∀ (j : Nat) m, j < k → L[j]? = some m → aheadP n m = true) (h2 : ∀ m, L[k]? = some m → aheadP n m = false) : putL L n = L.take k ++ n :: restP n.path (L.drop k) := by
  have h : L.takeWhile (aheadP n) = L.take k ∧ L.dropWhile (aheadP n) = L.drop k := by
    induction L generalizing k with
    | nil => simp
    | cons m L ih =>
      match k with
      | 0 =>
        have := h2 m rfl
        rw [List.takeWhile_cons, List.dropWhile_cons, this]; simp
      | k + 1 =>
        have := h1 0 m (by omega) rfl
        rw [List.takeWhile_cons, List.dropWhile_cons, this]
        have i := ih k (by simpa using hk) (fun j x hj hx => h1 (j + 1) x (by omega) (by simpa using hx)) (fun x hx => h2 x (by simpa using hx))
        simp only [if_true, List.take_succ_cons, List.drop_succ_cons]
        exact ⟨by rw [i.1], i.2⟩
  rw [putL, h.1, h.2]
theorem rest_drop (L : List Nd) (p : ByteArray) (k : Nat) : restP p (L.drop k) = L.drop (if (∃ m, L[k]? = some m ∧ m.path = p) then k + 1 else k) := by
  by_cases hk : k < L.length
  · rw [List.drop_eq_getElem_cons hk, restP]
    have e : L[k]? = some L[k] := List.getElem?_eq_getElem hk
    by_cases h : L[k].path = p
    · rw [if_pos h, if_pos ⟨_, e, h⟩]
    · rw [if_neg h, if_neg (fun ⟨m, hm, hp⟩ => by rw [e] at hm; cases hm; exact h hp), List.drop_eq_getElem_cons hk]
  · rw [if_neg (fun ⟨m, hm, _⟩ => by have := (List.getElem?_eq_some_iff.1 hm).1; omega)]
    rw [List.drop_eq_nil_of_le (by omega)]; rfl
theorem put_len (L : List Nd) (n : Nd) : (putL L n).length ≤ L.length + 1 := by
  have h1 := congrArg List.length (List.takeWhile_append_dropWhile (p := aheadP n) (l := L))
  rw [List.length_append] at h1
  have h2 : (restP n.path (L.dropWhile (aheadP n))).length ≤ (L.dropWhile (aheadP n)).length := by
    cases L.dropWhile (aheadP n) with
    | nil => exact Nat.le_refl _
    | cons m R => rw [restP]; split <;> simp
  rw [putL, List.length_append, List.length_cons]
  omega
theorem take_all {n : Nd} (L : List Nd) : ∀ m ∈ L.takeWhile (aheadP n), aheadP n m = true := fun m hm => by
  induction L with
  | nil => simp at hm
  | cons x L ih =>
    rw [List.takeWhile_cons] at hm
    cases h : aheadP n x
    · rw [h] at hm; simp at hm
    · rw [h] at hm
      simp only [if_true, List.mem_cons] at hm
      rcases hm with rfl | hm
      · exact h
      · exact ih hm
/-- What the place is good for. -/
theorem put_ok {L : List Nd} {n : Nd} (hL : ∀ m ∈ L, pathB m.path = true) (hn : pathB n.path = true) (hr : L.Pairwise (fun a b => ltP a.path b.path = true)) :
    (putL L n).Pairwise (fun a b => ltP a.path b.path = true) ∧ (putL L n).Perm (L.filter (fun m => !decide (m.path = n.path)) ++ [n]) := by
  have hsp := List.takeWhile_append_dropWhile (p := aheadP n) (l := L)
  have hA := take_all (n := n) L
  have hR : ∀ m, (L.dropWhile (aheadP n)).head? = some m → aheadP n m = false := fun m hm => by
    have := List.head?_dropWhile_not (aheadP n) L
    rw [hm] at this
    simpa using this
  unfold putL
  generalize L.takeWhile (aheadP n) = A at hsp hA
  generalize L.dropWhile (aheadP n) = R at hsp hR
  subst hsp
  rw [List.pairwise_append] at hr
  obtain ⟨rA, rR, rAR⟩ := hr
  have hLA : ∀ m ∈ A, pathB m.path = true := fun m hm => hL m (List.mem_append_left _ hm)
  have hLR : ∀ m ∈ R, pathB m.path = true := fun m hm => hL m (List.mem_append_right _ hm)
  have ltA : ∀ m ∈ A, ltP m.path n.path = true := fun m hm => by rw [ltP_right (hLA m hm) hn]; exact hA m hm
  have neA : ∀ m ∈ A, m.path ≠ n.path := fun m hm e => by
    have := hA m hm
    rw [aheadP, e, less_irr] at this; cases this
  have trn : ∀ {a b c : ByteArray}, pathB a = true → pathB b = true → pathB c = true → ltP a b = true → ltP b c = true → ltP a c = true := fun ha hb hc h1 h2 => by
    rw [ltP_right ha hb] at h1
    rw [ltP_right hb hc] at h2
    rw [ltP_right ha hc]; exact less_trans _ _ _ h1 h2
  have ltn : ∀ {a b : ByteArray}, pathB a = true → ltP a b = true → a ≠ b := fun ha h e => by
    subst e
    rw [ltP_right ha ha, less_irr] at h; cases h
  have key : (∀ m ∈ restP n.path R, ltP n.path m.path = true ∧ pathB m.path = true ∧ m ∈ R) ∧ (restP n.path R).Pairwise (fun a b => ltP a.path b.path = true) ∧ R.filter (fun m => !decide (m.path = n.path)) = restP n.path R := by
    match R, hR, rR, hLR with
    | [], _, _, _ => exact ⟨fun m hm => by simp [restP] at hm, List.Pairwise.nil, rfl⟩
    | x :: R, hR, rR, hLR =>
      have hx := hR x rfl
      have px := hLR x List.mem_cons_self
      have rR' := List.pairwise_cons.1 rR
      by_cases e : x.path = n.path
      · rw [restP, if_pos e]
        refine ⟨fun m hm => ⟨by rw [← e]; exact rR'.1 m hm, hLR m (List.mem_cons_of_mem _ hm), List.mem_cons_of_mem _ hm⟩, rR'.2, ?_⟩
        rw [List.filter_cons, if_neg (by simp [e])]
        exact List.filter_eq_self.2 (fun m hm => by
          have := ltn px (rR'.1 m hm)
          rw [e] at this
          simpa using fun h => this h.symm)
      · rw [restP, if_neg e]
        have hnx : ltP n.path x.path = true := by
          have := two_less px hn e
          change ltP x.path n.path = !ltP n.path x.path at this
          rw [ltP_right px hn] at this
          rw [aheadP] at hx
          rw [hx] at this
          cases h : ltP n.path x.path
          · rw [h] at this; cases this
          · rfl
        have all : ∀ m ∈ x :: R, ltP n.path m.path = true := fun m hm => by
          rcases List.mem_cons.1 hm with rfl | hm
          · exact hnx
          · exact trn hn px (hLR m (List.mem_cons_of_mem _ hm)) hnx (rR'.1 m hm)
        refine ⟨fun m hm => ⟨all m hm, hLR m hm, hm⟩, rR, ?_⟩
        exact List.filter_eq_self.2 (fun m hm => by
          have := ltn hn (all m hm)
          simpa using fun h => this h.symm)
  obtain ⟨k1, k2, k3⟩ := key
  constructor
  · rw [List.pairwise_append]
    refine ⟨rA, List.pairwise_cons.2 ⟨fun m hm => (k1 m hm).1, k2⟩, fun a ha b hb => ?_⟩
    rcases List.mem_cons.1 hb with rfl | hb
    · exact ltA a ha
    · exact rAR a ha b (k1 b hb).2.2
  · rw [List.filter_append, k3, List.filter_eq_self.2 (fun m hm => by simpa using neA m hm), List.append_assoc]
    exact List.Perm.append_left _ (List.perm_append_comm (l₁ := [n]) (l₂ := restP n.path R))
end Pl
end Go.Proofs.YtepmojmelcngeaaGreatDoor

/- A tree without a path, and all under it. -/
namespace Go.Proofs.YtepmojmelcngeaaGreatDoor
open Go.RowKit
namespace Pl
/-- A tree without a path, and all under it. -/
def offL (p : ByteArray) (L : List Nd) : List Nd := L.filter (fun n => !under n.path p)
theorem offN_in {L : List Nd} {p : ByteArray} {k : Nat} {n : Nd} (hn : L[k]? = some n) (h : under n.path p = false) : offL p (L.take (k + 1)) = offL p (L.take k) ++ [n] := by
  have h1 := List.getElem?_eq_some_iff.1 hn
  rw [List.take_succ_eq_append_getElem h1.1, h1.2]
  simp [offL, h]
theorem offN_out {L : List Nd} {p : ByteArray} {k : Nat} {n : Nd} (hn : L[k]? = some n) (h : under n.path p = true) : offL p (L.take (k + 1)) = offL p (L.take k) := by
  have h1 := List.getElem?_eq_some_iff.1 hn
  rw [List.take_succ_eq_append_getElem h1.1, h1.2]
  simp [offL, h]
theorem offN_len (L : List Nd) (p : ByteArray) (k : Nat) : (offL p (L.take k)).length ≤ k := by
  have h1 : (offL p (L.take k)).length ≤ (L.take k).length := by simpa [offL] using List.length_filter_le _ (L.take k)
  have h2 : (L.take k).length ≤ k := by simp; omega
  omega
end Pl
end Go.Proofs.YtepmojmelcngeaaGreatDoor

