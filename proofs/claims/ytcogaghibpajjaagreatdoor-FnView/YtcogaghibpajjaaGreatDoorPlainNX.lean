import Derived.Test.YtcogaghibpajjaaGreatDoorG35
import Derived.Test.YtcogaghibpajjaaGreatDoorG02
namespace Go.Proofs.YtcogaghibpajjaaGreatDoor
namespace Pl
def zc3 (xs : List (Int × List Nd)) : Int := if 400 < xs.length then 2 else match zo0 xs with
 | none => 1
 | some p => match ze5 p.1 p.2 with
  | none => 9
  | some _ => 0
def zc5 (xs : List (Int × List Nd)) : List Nd := match zo0 xs with
 | none => []
 | some p => (ze5 p.1 p.2).getD []
theorem zx8 {xs : List (Int × List Nd)} (h : 400 < xs.length) : zc3 xs = 2 ∧ zc5 xs = [] := by
 refine ⟨if_pos h, ?_⟩
 unfold zc5
 rw [zv4]
 cases hn : nest (rowO xs) with
 | none => rfl
 | some F => have := zs4 hn; omega
theorem view_bad {xs : List (Int × List Nd)} (h : ¬ 400 < xs.length) (hn : nest (rowO xs) = none) : zc3 xs = 1 ∧ zc5 xs = [] := by
 unfold zc3 zc5
 rw [if_neg h, zv4 hn]
 exact ⟨rfl, rfl⟩
theorem view_none {xs : List (Int × List Nd)} {L : List Nd} {k : Fx} (hl : xs.length ≤ 12) (h : zo0 xs = some (L, k)) (hv : ze5 L k = none) : zc3 xs = 9 ∧ zc5 xs = [] := by
 unfold zc3 zc5
 rw [if_neg (by omega), h]
 simp only [hv]
 exact ⟨trivial, rfl⟩
theorem zy4 {xs : List (Int × List Nd)} {L V : List Nd} {k : Fx} (hl : xs.length ≤ 12) (h : zo0 xs = some (L, k)) (hv : ze5 L k = some V) : zc3 xs = 0 ∧ zc5 xs = V := by
 unfold zc3 zc5
 rw [if_neg (by omega), h]
 simp only [hv]
 exact ⟨trivial, rfl⟩
theorem zn6 {xs : List (Int × List Nd)} (h : zc3 xs = 0) : za2 (zc5 xs) = true := by
 unfold zc3 at h
 split at h
 ·cases h
 ·unfold zc5
  cases hn : zo0 xs with
  | none => rw [hn] at h; cases h
  | some p =>
   rw [hn] at h
   cases hv : ze5 p.1 p.2 with
   | none => simp only [hv] at h; cases h
   | some V =>
    simp only [hv, Option.getD_some]
    cases hF : nest (rowO xs) with
    | none => rw [zv4 hF] at hn; cases hn
    | some F =>
     obtain ⟨L, k, -, -, o, e⟩ := yc6 hF
     rw [hn] at e
     have e2 := Option.some.inj e
     rw [e2] at hv
     exact view_ok o hv
theorem view_nil {xs : List (Int × List Nd)} (h : zc3 xs ≠ 0) : zc5 xs = [] := by
 unfold zc3 at h
 split at h
 ·exact (zx8 (by assumption)).2
 ·unfold zc5
  cases hn : zo0 xs with
  | none => rfl
  | some p =>
   rw [hn] at h
   cases hv : ze5 p.1 p.2 with
   | none => simp [hv]
   | some V => simp [hv] at h
theorem zw (xs : List (Int × List Nd)) : (zc5 xs).length ≤ 40 ∧ ∀ n ∈ zc5 xs, n.path.size ≤ 1048576 ∧ n.data.size ≤ 1048576 := by
 by_cases h : zc3 xs = 0
 ·have ht := zn6 h
  refine ⟨((zl _).1 ht).1, fun n hn => ?_⟩
  have h2 := (((zl _).1 ht).2.1 n hn).1
  have h3 := zh1 (ze3 h2).1
  have h4 := (zh0 h2).1
  exact ⟨by omega, by omega⟩
 ·have e : zc5 xs = [] := by
   unfold zc3 at h
   split at h
   ·exact (zx8 (by assumption)).2
   ·unfold zc5
    cases hn : zo0 xs with
    | none => rfl
    | some p =>
     rw [hn] at h
     cases hv : ze5 p.1 p.2 with
     | none => simp [hv]
     | some V => simp [hv] at h
  rw [e]
  exact ⟨Nat.zero_le _, fun n hn => by cases hn⟩
end Pl
end Go.Proofs.YtcogaghibpajjaaGreatDoor
