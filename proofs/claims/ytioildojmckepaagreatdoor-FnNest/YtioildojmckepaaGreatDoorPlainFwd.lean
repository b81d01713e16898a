import Derived.Test.YtioildojmckepaaGreatDoorG00
import Derived.Test.YtioildojmckepaaGreatDoorG02
import Derived.Below
import Derived.WalkKit
import Derived.Laws.IdiomStrings
import Derived.Test.YtioildojmckepaaGreatDoorProg
import Derived.WalkSpells
namespace Go.Proofs.YtioildojmckepaaGreatDoor
namespace Pl
theorem get_by (s : ByteArray) {p : Nat} {b : UInt8} {r : List UInt8} (h : (by_ s).drop p = b :: r) : ∃ hp : p < s.size, s[p] = b ∧ (by_ s).drop (p + 1) = r := by
 have hl : p < (by_ s).length := by
  apply Nat.lt_of_not_le
  intro hle
  rw [List.drop_eq_nil_of_le hle] at h
  cases h
 have hp : p < s.size := by rw [zb9] at hl; exact hl
 rw [List.drop_eq_getElem_cons hl] at h
 injection h with h1 h2
 refine ⟨hp, ?_, h2⟩
 rw [← h1]
 simp [by_]
 rfl
theorem small_k {v k : Nat} (hk : v * 128 ^ k < 18446744073709551616) (h9 : 9 ≤ k) : v ≤ 1 := by
 have h1 : (128 : Nat) ^ 9 ≤ 128 ^ k := Nat.pow_le_pow_right (by omega) h9
 have h2 : v * 128 ^ 9 ≤ v * 128 ^ k := Nat.mul_le_mul_left _ h1
 have h3 : (128 : Nat) ^ 9 = 9223372036854775808 := by decide
 omega
theorem enc_len (f : Nat) : ∀ v k, v ≤ f → v * 128 ^ k < 18446744073709551616 → k ≤ 9 → (enc v).length + k ≤ 10 := by
 induction f with
 | zero =>
  intro v k hv h hk
  obtain rfl : v = 0 := by omega
  rw [zi2 (by omega)]; simp; omega
 | succ f ih =>
  intro v k hv h hk
  by_cases hs : v < 128
  ·rw [zi2 hs]; simp; omega
  ·by_cases h9 : k = 9
   ·have := small_k h (by omega); omega
   ·rw [zu1 (by omega), List.length_cons]
    have h2 : v / 128 * 128 ^ (k + 1) < 18446744073709551616 := by
     rw [Nat.pow_succ, Nat.mul_comm (128 ^ k) 128, ← Nat.mul_assoc]
     exact Nat.lt_of_le_of_lt (Nat.mul_le_mul_right _ (Nat.div_mul_le_self v 128)) h
    have := ih (v / 128) (k + 1) (by omega) h2 (by omega)
    omega
theorem enc_pos (v : Nat) : 1 ≤ (enc v).length := by
 by_cases h : v < 128
 ·rw [zi2 h]; simp
 ·rw [zu1 (by omega)]; simp
theorem getAt_fwd (s : ByteArray) (f : Nat) : ∀ v p k X r, (by_ s).drop p = enc v ++ r → v * 128 ^ k < 18446744073709551616 → k ≤ 9 → 10 ≤ f + k → (0 < k → 0 < v) → zd1 s f p k X = (unf (X + v * 128 ^ k), ((p + (enc v).length : Nat) : Int), 0) := by
 induction f with
 | zero => intro v p k X r _ _ hk hf; omega
 | succ f ih =>
  intro v p k X r hd hv hk hf h0
  by_cases hs : v < 128
  ·rw [zi2 hs] at hd ⊢
   obtain ⟨hp, hb, -⟩ := get_by s hd
   have hb2 : s[p].toNat = v := by rw [hb]; simp; omega
   rw [zs7 f hp (by omega) (by
    rintro (⟨h9, h1⟩ | ⟨h1, h2⟩)
    ·have := small_k hv (by omega); omega
    ·have := h0 h2; omega), hb2]
   rfl
  ·have h9 : k ≠ 9 := fun e => by have := small_k hv (by omega); omega
   rw [zu1 (by omega)] at hd ⊢
   obtain ⟨hp, hb, hr⟩ := get_by s hd
   have hb2 : s[p].toNat = v % 128 + 128 := by rw [hb]; simp; omega
   have h2 : v / 128 * 128 ^ (k + 1) < 18446744073709551616 := by
    rw [Nat.pow_succ, Nat.mul_comm (128 ^ k) 128, ← Nat.mul_assoc]
    exact Nat.lt_of_le_of_lt (Nat.mul_le_mul_right _ (Nat.div_mul_le_self v 128)) hv
   rw [zt5 f hp (by omega) h9, hb2, show (v % 128 + 128) % 128 = v % 128 by omega, ih (v / 128) (p + 1) (k + 1) _ r hr h2 (by omega) (by omega) (fun _ => by omega)]
   have e : X + v % 128 * 128 ^ k + v / 128 * 128 ^ (k + 1) = X + v * 128 ^ k := by
    rw [Nat.pow_succ, Nat.mul_comm (128 ^ k) 128, ← Nat.mul_assoc, Nat.add_assoc, ← Nat.add_mul]
    congr 2; omega
   rw [e, List.length_cons]
   congr 2
   omega
theorem unf_fold (n : Int) : unf (fold n) = n := by
 unfold unf fold
 by_cases h : n < 0
 ·rw [if_pos h, if_pos (by omega)]; omega
 ·rw [if_neg h, if_neg (by omega)]; omega
theorem zs8 {s : ByteArray} {n : Int} {p : Nat} {r : List UInt8} (h8 : s.size ≤ 8000) (h1 : -9223372036854775808 ≤ n) (h2 : n ≤ 9223372036854775807) (hd : (by_ s).drop p = enc (fold n) ++ r) : za0 s (p : Int) = (n, ((p + (enc (fold n)).length : Nat) : Int), 0) := by
 have hf := zu3 h1 h2
 unfold za0
 rw [if_neg (by omega), if_neg (by omega), Int.toNat_natCast, getAt_fwd s 10 (fold n) p 0 0 r hd (by simpa using hf) (by omega) (by omega) (fun h => absurd h (by omega))]
 simp [unf_fold]
theorem num_len {n : Int} (h1 : -9223372036854775808 ≤ n) (h2 : n ≤ 9223372036854775807) : 1 ≤ (enc (fold n)).length ∧ (enc (fold n)).length ≤ 10 := by
 have := enc_len (fold n) (fold n) 0 (Nat.le_refl _) (by simpa using zu3 h1 h2) (by omega)
 exact ⟨enc_pos _, by omega⟩
end Pl
end Go.Proofs.YtioildojmckepaaGreatDoor
