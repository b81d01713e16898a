import Derived.Test.YtonffldjbmednaaGreatDoorPlainNr
import Derived.Test.YtonffldjbmednaaGreatDoorG20
import Derived.Test.YtonffldjbmednaaGreatDoorPlainNestAt
namespace Go.Proofs.YtonffldjbmednaaGreatDoor
namespace Pl
theorem steps_apart {l : List Int} (h1 : ∀ (k : Nat) (x : Int), l[k]? = some x → ∀ (j : Nat) (p : Int), k = j + 1 → l[j]? = some p → p < x) : l.Pairwise (· < ·) := by
 rw [List.pairwise_iff_getElem]
 intro i j hi hj hij
 induction j with
 | zero => omega
 | succ j ih =>
  have h2 := h1 (j + 1) l[j + 1] (List.getElem?_eq_getElem hj) j (l[j]'(by omega)) rfl (List.getElem?_eq_getElem (by omega))
  by_cases e : i = j
  ·subst e
   exact h2
  ·have := ih (by omega) (by omega)
   omega
theorem space_small {next : Int} {N : List Ns} {M : List Mn} {H : List Hn} {way : ByteArray → Bool} (h : zd1 next (N.map WSp.nr) M H way = true) :
  N.length ≤ 12 ∧ M.length ≤ 6 ∧ H.length ≤ 6 ∧ (∀ x ∈ N, x.Is.length ≤ 12 ∧ x.Is.length ≠ 0 ∧ ∀ t ∈ x.Is, t.t.L.length ≤ 40) ∧ (N.map (·.d)).Pairwise (· < ·) ∧ (∀ d ∈ N.map (·.d), 1 ≤ d ∧ d ≤ 1000000) ∧ 1 ≤ next ∧ next ≤ 1000000 := by
 unfold zd1 at h
 simp only [Bool.and_eq_true] at h
 obtain ⟨⟨⟨hn, hh⟩, hm⟩, hi⟩ := h
 have hn := (zl _ _ _).1 hn
 unfold zj2 at hh
 unfold zh0 at hm
 unfold zi8 at hi
 simp only [Bool.and_eq_true, decide_eq_true_eq, List.length_map] at hh hm hi
 have key : ∀ (k : Nat) (x : Ns), N[k]? = some x → isB x.d 1 (next - 1) = true ∧ (nest (rowO (x.Is.map It.r))).isSome = true ∧ ∀ (j : Nat) (y : Ns), k = j + 1 → N[j]? = some y → y.d < x.d := fun k x hk => by
  have h1 := hi.2
  rw [List.all_eq_true] at h1
  have h2 := h1 k (List.mem_range.2 (List.getElem?_eq_some_iff.1 hk).1)
  unfold zg5 at h2
  rw [List.getElem?_map, hk] at h2
  simp only [Option.map_some, Bool.and_eq_true] at h2
  refine ⟨h2.1.1.1, h2.1.2, fun j y e hy => ?_⟩
  subst e
  have h3 := h2.1.1.2
  simp only [List.getElem?_map, hy, Option.map_some, decide_eq_true_eq] at h3
  exact h3
 refine ⟨hi.1, hm.1.1.2, hh.1, fun x hx => ?_, steps_apart fun k x hx j p e hp => ?_, fun d hd => ?_, hn⟩
 ·obtain ⟨k, hk⟩ := List.getElem?_of_mem hx
  have := zs3 (key k x hk).2.1
  rw [List.length_map] at this
  exact ⟨this.1, this.2.1, fun t ht => this.2.2 t.r (List.mem_map.2 ⟨t, ht, rfl⟩)⟩
 ·rw [List.getElem?_map] at hx hp
  obtain ⟨x', h1, rfl⟩ := Option.map_eq_some_iff.1 hx
  obtain ⟨p', h2, rfl⟩ := Option.map_eq_some_iff.1 hp
  exact (key k x' h1).2.2 j p' e h2
 ·obtain ⟨x, hx, rfl⟩ := List.mem_map.1 hd
  obtain ⟨k, hk⟩ := List.getElem?_of_mem hx
  have := (zl _ _ _).1 (key k x hk).1
  omega
structure Ao where
 N : List (Int × List (Int × List Nd))
 M : List Mn
 H : List Hn
 next : Int
 d : Int
 p : ByteArray
 c : Int
def Ao.ill (c : Int) : Ao := ⟨[], [], [], 0, 0, ⟨#[]⟩, c⟩
structure Fits (u : Sp) (A : Ao) : Prop where
 n : u.N.map Ns.r = A.N
 m : u.M = A.M
 h : u.H = A.H
 x : u.next = A.next
theorem Fits.nil (c : Int) : Fits ⟨none, 0, [], none, 0, [], none, 0, [], 0⟩ (Ao.ill c) := ⟨rfl, rfl, rfl, rfl⟩
structure Ao.Small (A : Ao) : Prop where
 n : A.N.length ≤ 12
 m : A.M.length ≤ 6
 h : A.H.length ≤ 6
 i : ∀ x ∈ A.N, x.2.length ≤ 12 ∧ x.2.length ≠ 0 ∧ ∀ t ∈ x.2, t.2.length ≤ 40
def whereA (s : Sp) (p : ByteArray) (R : Bool) : Ao := if whyI p R = 0 then ⟨s.N.map Ns.r, s.M, s.H, s.next, (leadI (uR p) s.M s.M.length).i, rest p (leadI (uR p) s.M s.M.length).p, 0⟩ else Ao.ill (if whyI p R = 1 then 2 else 1)
theorem Ao.ill_small (c : Int) : (Ao.ill c).Small := ⟨Nat.zero_le _, Nat.zero_le _, Nat.zero_le _, fun x h => by cases h⟩
theorem whereA_small {s : Sp} {p : ByteArray} {R : Bool} (h : R = true → s.N.length ≤ 12 ∧ s.M.length ≤ 6 ∧ s.H.length ≤ 6 ∧ ∀ x ∈ s.N, x.Is.length ≤ 12 ∧ x.Is.length ≠ 0 ∧ ∀ t ∈ x.Is, t.t.L.length ≤ 40) : (whereA s p R).Small := by
 unfold whereA
 split
 ·rename_i h0
  have hR : R = true := by
   unfold whyI at h0
   cases R with
   | true => rfl
   | false => revert h0; split <;> simp
  obtain ⟨h1, h2, h3, h4⟩ := h hR
  refine ⟨by rw [List.length_map]; exact h1, h2, h3, fun x hx => ?_⟩
  obtain ⟨y, hy, rfl⟩ := List.mem_map.1 hx
  obtain ⟨k1, k2, k3⟩ := h4 y hy
  refine ⟨by rw [show y.r.2 = y.Is.map It.r from rfl, List.length_map]; exact k1, by rw [show y.r.2 = y.Is.map It.r from rfl, List.length_map]; exact k2, fun t ht => ?_⟩
  obtain ⟨z, hz, rfl⟩ := List.mem_map.1 ht
  exact k3 z hz
 ·exact Ao.ill_small _
end Pl
end Go.Proofs.YtonffldjbmednaaGreatDoor
