/- Several texts of one claim in one file: PlainAns8, PlainClose. -/
import Derived.Test.YtonffldjbmednaaGreatDoorG07
import Derived.Test.YtonffldjbmednaaGreatDoorPlainNr
import Derived.Test.YtonffldjbmednaaGreatDoorPlainNestAt
namespace Go.Proofs.YtonffldjbmednaaGreatDoor
namespace Pl
theorem zy7 {l : List Int} (h1 : ∀ (k : Nat) (x : Int), l[k]? = some x → ∀ (j : Nat) (p : Int), k = j + 1 → l[j]? = some p → p < x) : l.Pairwise (· < ·) := by
 rw [List.pairwise_iff_getElem]
 intro i j hi hj hij
 induction j with
 | zero => omega
 | succ j ih =>
  have h2 := h1 (j + 1) l[j + 1] (List.getElem?_eq_getElem hj) j (l[j]'(by omega)) rfl (List.getElem?_eq_getElem (by omega))
  by_cases e : i = j
  ·subst e
   exact h2
  ·have := ih (by omega) (by omega)
   omega
theorem zs8 {next : Int} {N : List Ns} {M : List Mn} {H : List Hn} {way : ByteArray → Bool} (h : ze9 next (N.map WSp.nr) M H way = true) :
  N.length ≤ 12 ∧ M.length ≤ 6 ∧ H.length ≤ 6 ∧ (∀ x ∈ N, x.Is.length ≤ 12 ∧ x.Is.length ≠ 0 ∧ ∀ t ∈ x.Is, t.t.L.length ≤ 40) ∧ (N.map (·.d)).Pairwise (· < ·) ∧ (∀ d ∈ N.map (·.d), 1 ≤ d ∧ d ≤ 1000000) ∧ 1 ≤ next ∧ next ≤ 1000000 := by
 unfold ze9 at h
 simp only [Bool.and_eq_true] at h
 obtain ⟨⟨⟨hn, hh⟩, hm⟩, hi⟩ := h
 have hn := (zk7 _ _ _).1 hn
 unfold zj4 at hh
 unfold zi3 at hm
 unfold zk4 at hi
 simp only [Bool.and_eq_true, decide_eq_true_eq, List.length_map] at hh hm hi
 have key : ∀ (k : Nat) (x : Ns), N[k]? = some x → isB x.d 1 (next - 1) = true ∧ (nest (rowO (x.Is.map It.r))).isSome = true ∧ ∀ (j : Nat) (y : Ns), k = j + 1 → N[j]? = some y → y.d < x.d := fun k x hk => by
  have h1 := hi.2
  rw [List.all_eq_true] at h1
  have h2 := h1 k (List.mem_range.2 (List.getElem?_eq_some_iff.1 hk).1)
  unfold zi2 at h2
  rw [List.getElem?_map, hk] at h2
  simp only [Option.map_some, Bool.and_eq_true] at h2
  refine ⟨h2.1.1.1, h2.1.2, fun j y e hy => ?_⟩
  subst e
  have h3 := h2.1.1.2
  simp only [List.getElem?_map, hy, Option.map_some, decide_eq_true_eq] at h3
  exact h3
 refine ⟨hi.1, hm.1.1.2, hh.1, fun x hx => ?_, zy7 fun k x hx j p e hp => ?_, fun d hd => ?_, hn⟩
 ·obtain ⟨k, hk⟩ := List.getElem?_of_mem hx
  have := nest_small (key k x hk).2.1
  rw [List.length_map] at this
  exact ⟨this.1, this.2.1, fun t ht => this.2.2 t.r (List.mem_map.2 ⟨t, ht, rfl⟩)⟩
 ·rw [List.getElem?_map] at hx hp
  obtain ⟨x', h1, rfl⟩ := Option.map_eq_some_iff.1 hx
  obtain ⟨p', h2, rfl⟩ := Option.map_eq_some_iff.1 hp
  exact (key k x' h1).2.2 j p' e h2
 ·obtain ⟨x, hx, rfl⟩ := List.mem_map.1 hd
  obtain ⟨k, hk⟩ := List.getElem?_of_mem hx
  have := (zk7 _ _ _).1 (key k x hk).1
  omega
structure Ao where
 N : List (Int × List (Int × List Nd))
 M : List Mn
 H : List Hn
 next : Int
 d : Int
 p : ByteArray
 c : Int
def Ao.ill (c : Int) : Ao := ⟨[], [], [], 0, 0, ⟨#[]⟩, c⟩
structure Fits (u : Sp) (A : Ao) : Prop where
 n : u.N.map Ns.r = A.N
 m : u.M = A.M
 h : u.H = A.H
 x : u.next = A.next
theorem Fits.nil (c : Int) : Fits ⟨none, 0, [], none, 0, [], none, 0, [], 0⟩ (Ao.ill c) := ⟨rfl, rfl, rfl, rfl⟩
structure Ao.Small (A : Ao) : Prop where
 n : A.N.length ≤ 12
 m : A.M.length ≤ 6
 h : A.H.length ≤ 6
 i : ∀ x ∈ A.N, x.2.length ≤ 12 ∧ x.2.length ≠ 0 ∧ ∀ t ∈ x.2, t.2.length ≤ 40
theorem Ao.ill_small (c : Int) : (Ao.ill c).Small := ⟨Nat.zero_le _, Nat.zero_le _, Nat.zero_le _, fun x h => by cases h⟩
end Pl
end Go.Proofs.YtonffldjbmednaaGreatDoor

namespace Go.Proofs.YtonffldjbmednaaGreatDoor
namespace Pl
def delH (H : List Hn) (d : Int) : List Hn := H.filter (fun h => !decide (h.d = d))
def keepN (N : List (Int × List (Int × List Nd))) (M : List Mn) (H : List Hn) : List (Int × List (Int × List Nd)) := N.filter (fun x => !decide (held M H x.1 = 0))
def zd3 : List Hn → Int → Int
 | [], _ => -1
 | h :: r, d => if h.d = d then 0 else if zd3 r d < 0 then -1 else zd3 r d + 1
theorem handI_inst (H : List Hn) (d : Int) : zd3 H d = ze6 (H.map (·.d)) d := by
 induction H with
 | nil => rfl
 | cons h r ih =>
  rw [zd3, ih]
  rfl
theorem handI_at {H : List Hn} {d : Int} {k : Nat} (h : zd3 H d = (k : Int)) : ∃ t, H[k]? = some t := by
 induction H generalizing k with
 | nil => rw [zd3] at h; omega
 | cons x r ih =>
  rw [zd3] at h
  by_cases e : x.d = d
  ·rw [if_pos e] at h
   obtain rfl : k = 0 := by omega
   exact ⟨x, rfl⟩
  ·rw [if_neg e] at h
   by_cases h2 : zd3 r d < 0
   ·rw [if_pos h2] at h; omega
   ·rw [if_neg h2] at h
    obtain ⟨k, rfl⟩ : ∃ j, k = j + 1 := ⟨k - 1, by omega⟩
    obtain ⟨t, ht⟩ := ih (k := k) (by omega)
    exact ⟨t, by simpa using ht⟩
theorem handI_ge (H : List Hn) (d : Int) : -1 ≤ zd3 H d := by
 cases H with
 | nil => rw [zd3]; omega
 | cons x r => rw [zd3]; split; omega; split <;> omega
theorem delH_none {H : List Hn} {d : Int} (h : ∀ x ∈ H, x.d ≠ d) : delH H d = H := by
 unfold delH
 rw [List.filter_eq_self]
 exact fun x hx => by simpa using h x hx
theorem delH_place : ∀ {H : List Hn} {d : Int} (_ : H.Pairwise (fun a b => a.d < b.d)) (k : Nat), zd3 H d = (k : Int) → H.take k ++ H.drop (k + 1) = delH H d := by
 intro H d
 induction H with
 | nil => intro _ k h; rw [zd3] at h; omega
 | cons h r ih =>
  intro hp k hk
  rw [List.pairwise_cons] at hp
  rw [zd3] at hk
  by_cases e : h.d = d
  ·rw [if_pos e] at hk
   obtain rfl : k = 0 := by omega
   have := delH_none (H := r) (d := d) (fun x hx => by have := hp.1 x hx; omega)
   unfold delH at this ⊢
   rw [List.filter_cons, if_neg (by simp [e]), this]
   simp
  ·rw [if_neg e] at hk
   by_cases h2 : zd3 r d < 0
   ·rw [if_pos h2] at hk; omega
   ·rw [if_neg h2] at hk
    obtain ⟨k, rfl⟩ : ∃ j, k = j + 1 := ⟨k - 1, by omega⟩
    have := ih hp.2 k (by omega)
    unfold delH at this ⊢
    rw [List.filter_cons, if_pos (by simp [e]), List.take_succ_cons, List.drop_succ_cons, List.cons_append, this]
def zg8 (s : Sp) (d : Int) (R : Bool) : Ao := if R = false then Ao.ill 1 else if zd3 s.H d < 0 then Ao.ill 6 else ⟨keepN (s.N.map Ns.r) s.M (delH s.H d), s.M, delH s.H d, s.next, 0, ⟨#[]⟩, 0⟩
theorem hands_rise {next : Int} {N : List (Int × Bool)} {M : List Mn} {H : List Hn} {way : ByteArray → Bool} (h : ze9 next N M H way = true) : H.Pairwise (fun a b => a.d < b.d) := by
 unfold ze9 at h
 simp only [Bool.and_eq_true] at h
 have hh := h.1.1.2
 unfold zj4 at hh
 rw [Bool.and_eq_true, List.all_eq_true] at hh
 have h1 := zy7 (l := H.map (·.d)) (fun k x hx j p e hp => by
  rw [List.getElem?_map] at hx hp
  obtain ⟨x', h1, rfl⟩ := Option.map_eq_some_iff.1 hx
  obtain ⟨p', h2, rfl⟩ := Option.map_eq_some_iff.1 hp
  have h3 := hh.2 k (List.mem_range.2 (List.getElem?_eq_some_iff.1 h1).1)
  unfold zi at h3
  rw [h1] at h3
  subst e
  simp only [Bool.and_eq_true, h2, decide_eq_true_eq] at h3
  exact h3.1.1.2)
 rw [List.pairwise_map] at h1
 exact h1
theorem closeA_small {s : Sp} {d : Int} {R : Bool} (h : R = true → s.N.length ≤ 12 ∧ s.M.length ≤ 6 ∧ s.H.length ≤ 6 ∧ ∀ x ∈ s.N, x.Is.length ≤ 12 ∧ x.Is.length ≠ 0 ∧ ∀ t ∈ x.Is, t.t.L.length ≤ 40) : (zg8 s d R).Small := by
 unfold zg8
 cases R with
 | false => exact Ao.ill_small _
 | true =>
  rw [if_neg (by decide)]
  split
  ·exact Ao.ill_small _
  ·obtain ⟨h1, h2, h3, h4⟩ := h rfl
   refine ⟨Nat.le_trans (List.length_filter_le _ _) (by rw [List.length_map]; exact h1), h2, Nat.le_trans (List.length_filter_le _ _) h3, fun x hx => ?_⟩
   obtain ⟨y, hy, rfl⟩ := List.mem_map.1 (List.mem_filter.1 hx).1
   obtain ⟨k1, k2, k3⟩ := h4 y hy
   refine ⟨by rw [show y.r.2 = y.Is.map It.r from rfl, List.length_map]; exact k1, by rw [show y.r.2 = y.Is.map It.r from rfl, List.length_map]; exact k2, fun t ht => ?_⟩
   obtain ⟨z, hz, rfl⟩ := List.mem_map.1 ht
   exact k3 z hz
end Pl
end Go.Proofs.YtonffldjbmednaaGreatDoor

