import Derived.Test.YtfdbokipgofcdaaGreatDoorG34
import Derived.Test.YtfdbokipgofcdaaGreatDoorG49
namespace Go.Proofs.YtfdbokipgofcdaaGreatDoor
namespace Pl
def zg7 (xs : List (Int × List Nd)) : Int := if 400 < xs.length then 2 else match zn8 xs with
 | none => 1
 | some p => match zl7 p.1 p.2 with
  | none => 9
  | some _ => 0
def zh0 (xs : List (Int × List Nd)) : List Nd := match zn8 xs with
 | none => []
 | some p => (zl7 p.1 p.2).getD []
theorem yo8 {xs : List (Int × List Nd)} (h : 400 < xs.length) : zg7 xs = 2 ∧ zh0 xs = [] := by
 refine ⟨if_pos h, ?_⟩
 unfold zh0
 rw [zv4]
 cases hn : nest (rowO xs) with
 | none => rfl
 | some F => have := zj3 hn; omega
theorem view_bad {xs : List (Int × List Nd)} (h : ¬ 400 < xs.length) (hn : nest (rowO xs) = none) : zg7 xs = 1 ∧ zh0 xs = [] := by
 unfold zg7 zh0
 rw [if_neg h, zv4 hn]
 exact ⟨rfl, rfl⟩
theorem yp6 {xs : List (Int × List Nd)} {L : List Nd} {k : Fx} (hl : xs.length ≤ 12) (h : zn8 xs = some (L, k)) (hv : zl7 L k = none) : zg7 xs = 9 ∧ zh0 xs = [] := by
 unfold zg7 zh0
 rw [if_neg (by omega), h]
 simp only [hv]
 exact ⟨trivial, rfl⟩
theorem yq4 {xs : List (Int × List Nd)} {L V : List Nd} {k : Fx} (hl : xs.length ≤ 12) (h : zn8 xs = some (L, k)) (hv : zl7 L k = some V) : zg7 xs = 0 ∧ zh0 xs = V := by
 unfold zg7 zh0
 rw [if_neg (by omega), h]
 simp only [hv]
 exact ⟨trivial, rfl⟩
theorem view_tree {xs : List (Int × List Nd)} (h : zg7 xs = 0) : za2 (zh0 xs) = true := by
 unfold zg7 at h
 split at h
 ·cases h
 ·unfold zh0
  cases hn : zn8 xs with
  | none => rw [hn] at h; cases h
  | some p =>
   rw [hn] at h
   cases hv : zl7 p.1 p.2 with
   | none => simp only [hv] at h; cases h
   | some V =>
    simp only [hv, Option.getD_some]
    cases hF : nest (rowO xs) with
    | none => rw [zv4 hF] at hn; cases hn
    | some F =>
     obtain ⟨L, k, -, -, o, e⟩ := zy2 hF
     rw [hn] at e
     have e2 := Option.some.inj e
     rw [e2] at hv
     exact view_ok o hv
theorem view_nil {xs : List (Int × List Nd)} (h : zg7 xs ≠ 0) : zh0 xs = [] := by
 unfold zg7 at h
 split at h
 ·exact (yo8 (by assumption)).2
 ·unfold zh0
  cases hn : zn8 xs with
  | none => rfl
  | some p =>
   rw [hn] at h
   cases hv : zl7 p.1 p.2 with
   | none => simp [hv]
   | some V => simp [hv] at h
theorem view_le (xs : List (Int × List Nd)) : (zh0 xs).length ≤ 40 ∧ ∀ n ∈ zh0 xs, n.path.size ≤ 1048576 ∧ n.data.size ≤ 1048576 := by
 by_cases h : zg7 xs = 0
 ·have ht := view_tree h
  refine ⟨((zx _).1 ht).1, fun n hn => ?_⟩
  have h2 := (((zx _).1 ht).2.1 n hn).1
  have h3 := zi7 (ze2 h2).1
  have h4 := (zh3 h2).1
  exact ⟨by omega, by omega⟩
 ·have e : zh0 xs = [] := by
   unfold zg7 at h
   split at h
   ·exact (yo8 (by assumption)).2
   ·unfold zh0
    cases hn : zn8 xs with
    | none => rfl
    | some p =>
     rw [hn] at h
     cases hv : zl7 p.1 p.2 with
     | none => simp [hv]
     | some V => simp [hv] at h
  rw [e]
  exact ⟨Nat.zero_le _, fun n hn => by cases hn⟩
end Pl
end Go.Proofs.YtfdbokipgofcdaaGreatDoor
