/- Several texts of one claim in one file: PlainGet, PlainGetZ, PlainText. -/
import Derived.Test.YtnbmpbfligdcjaaDoorPlain
import Derived.Laws.BitsLemmas
/- Plain facts on reading a number: what stands at a place of a text. No Go in sight. -/
namespace Go.Proofs.YtnbmpbfligdcjaaDoor
namespace Pl
/-- The number that u tells. -/
def unf (u : Nat) : Int := if u % 2 = 1 then -((u / 2 : Nat) : Int) - 1 else ((u / 2 : Nat) : Int)
/-- What is read from byte k of a number on, which stands at place p, X told so far: the number, the place behind it, the code. -/
def getAt (s : ByteArray) : Nat → Nat → Nat → Nat → Int × Int × Int
  | 0, _, _, _ => (0, 0, 3)
  | f + 1, p, k, X =>
    if s.size ≤ p then (0, 0, 4)
    else
      let c := (s.data.toList.getD p 0).toNat
      if 128 ≤ c then (if k = 9 then (0, 0, 3) else getAt s f (p + 1) (k + 1) (X + c % 128 * 128 ^ k))
      else if (k = 9 ∧ 1 < c) ∨ (c = 0 ∧ 0 < k) then (0, 0, 3)
      else (unf (X + c * 128 ^ k), ((p + 1 : Nat) : Int), 0)
section
variable {s : ByteArray} {p k X : Nat}
theorem getAt_short (f : Nat) (h : s.size ≤ p) : getAt s (f + 1) p k X = (0, 0, 4) := by rw [getAt, if_pos h]
theorem getAt_more (f : Nat) (h : p < s.size) (hc : 128 ≤ s[p].toNat) (hk : k ≠ 9) : getAt s (f + 1) p k X = getAt s f (p + 1) (k + 1) (X + s[p].toNat % 128 * 128 ^ k) := by
  rw [getAt, if_neg (by omega), byte_getD s p h]
  simp only
  rw [if_pos hc, if_neg hk]
theorem getAt_many (f : Nat) (h : p < s.size) (hc : 128 ≤ s[p].toNat) (hk : k = 9) : getAt s (f + 1) p k X = (0, 0, 3) := by
  rw [getAt, if_neg (by omega), byte_getD s p h]
  simp only
  rw [if_pos hc, if_pos hk]
theorem getAt_bad (f : Nat) (h : p < s.size) (hc : s[p].toNat < 128) (hb : (k = 9 ∧ 1 < s[p].toNat) ∨ (s[p].toNat = 0 ∧ 0 < k)) : getAt s (f + 1) p k X = (0, 0, 3) := by
  rw [getAt, if_neg (by omega), byte_getD s p h]
  simp only
  rw [if_neg (by omega), if_pos hb]
theorem getAt_good (f : Nat) (h : p < s.size) (hc : s[p].toNat < 128) (hb : ¬ ((k = 9 ∧ 1 < s[p].toNat) ∨ (s[p].toNat = 0 ∧ 0 < k))) :
    getAt s (f + 1) p k X = (unf (X + s[p].toNat * 128 ^ k), ((p + 1 : Nat) : Int), 0) := by
  rw [getAt, if_neg (by omega), byte_getD s p h]
  simp only
  rw [if_neg (by omega), if_neg hb]
end
/-- GetNum's answer. -/
def getNum (s : ByteArray) (a : Int) : Int × Int × Int := if 8000 < s.size then (0, 0, 2) else if a < 0 then (0, 0, 1) else getAt s 10 a.toNat 0 0

theorem pow_low {k : Nat} (h : k ≤ 8) : (128 : Nat) ^ k ≤ 72057594037927936 := by
  have : (72057594037927936 : Nat) = 128 ^ 8 := by decide
  rw [this]; exact Nat.pow_le_pow_right (by omega) h
theorem next_lt {k X c : Nat} (hX : X < 128 ^ k) : X + c % 128 * 128 ^ k < 128 ^ (k + 1) := by
  have h1 : c % 128 ≤ 127 := by omega
  have h2 : c % 128 * 128 ^ k ≤ 127 * 128 ^ k := Nat.mul_le_mul_right _ h1
  rw [Nat.pow_succ]
  omega
/-- What is told is put behind what was told. -/
theorem or_form {k X y : Nat} (hX : X < 128 ^ k) (hy : X + y * 128 ^ k < 18446744073709551616) : bits .or .u64 (X : Int) ((y * 128 ^ k : Nat) : Int) = ((X + y * 128 ^ k : Nat) : Int) := by
  have h1 : y * 128 ^ k < 18446744073709551616 := by omega
  have e : (128 : Nat) ^ k = 2 ^ (7 * k) := by rw [show (128 : Nat) = 2 ^ 7 by decide, ← Nat.pow_mul]
  rw [u64_or_nat X (y * 128 ^ k) (by omega) h1, Nat.or_comm, nat_join (7 * k) (y * 128 ^ k) X (by rw [e]; exact Nat.mul_mod_left _ _) (by rw [← e]; exact hX), Nat.add_comm]
theorem tell_form {k X c : Nat} (hX : X < 128 ^ k) (hc : c < 256) (hy : X + c % 128 * 128 ^ k < 18446744073709551616) :
    bits .or .u64 (X : Int) (IntKind.u64.wrap (IntKind.u64.wrap (bits .and .u8 (c : Int) 127) * 2 ^ (7 * k))) = ((X + c % 128 * 128 ^ k : Nat) : Int) := by
  have h1 : bits .and .u8 (c : Int) 127 = ((c % 128 : Nat) : Int) := by
    have h4 := u8_and_nat c 127 hc (by omega)
    have h5 := Nat.and_two_pow_sub_one_eq_mod c 7
    have e : (2 ^ 7 - 1 : Nat) = 127 := rfl
    rw [e] at h5
    rw [h5] at h4
    exact h4
  have e2 : (128 : Nat) ^ k = 2 ^ (7 * k) := by rw [show (128 : Nat) = 2 ^ 7 by decide, ← Nat.pow_mul]
  have h2 : IntKind.u64.wrap ((c % 128 : Nat) : Int) = ((c % 128 : Nat) : Int) := by rw [IntKind.wrap_u64]; omega
  have h3 : ((c % 128 : Nat) : Int) * 2 ^ (7 * k) = ((c % 128 * 128 ^ k : Nat) : Int) := by rw [e2]; simp
  rw [h1, h2, h3]
  have h6 : IntKind.u64.wrap ((c % 128 * 128 ^ k : Nat) : Int) = ((c % 128 * 128 ^ k : Nat) : Int) := by
    rw [IntKind.wrap_u64]
    generalize c % 128 * 128 ^ k = q at *
    omega
  rw [h6]
  exact or_form hX hy
theorem next_small {k X c : Nat} (hk : k ≤ 8) (hX : X < 128 ^ k) : X + c % 128 * 128 ^ k < 18446744073709551616 := by
  have h1 := next_lt (c := c) hX
  have h2 : (128 : Nat) ^ (k + 1) ≤ 128 ^ 9 := Nat.pow_le_pow_right (by omega) (by omega)
  have h3 : (128 : Nat) ^ 9 = 9223372036854775808 := by decide
  omega
theorem last_small {X c : Nat} (hc : c ≤ 1) (hX : X < 128 ^ 9) : X + c % 128 * 128 ^ 9 < 18446744073709551616 := by
  have h3 : (128 : Nat) ^ 9 = 9223372036854775808 := by decide
  rw [h3] at *
  omega
theorem low64_form (u : Nat) (h : u < 18446744073709551616) : bits .and .u64 (u : Int) 1 = (u : Int) % 2 := by
  have h4 := u64_and_nat u 1 h (by omega)
  rw [Nat.and_one_is_mod] at h4
  rw [show (u : Int) % 2 = ((u % 2 : Nat) : Int) by omega]
  exact h4
theorem notI_form (u : Nat) (hu : u < 18446744073709551616) : bits .xor .i64 (-1) ((u : Int) / 2) = -((u / 2 : Nat) : Int) - 1 := by
  have e : (u : Int) / 2 = ((u / 2 : Nat) : Int) := by omega
  rw [e]
  have hh : u / 2 < 9223372036854775808 := by omega
  generalize u / 2 = h at hh
  show IntKind.i64.wrap ((BitVec.ofInt 64 (-1) ^^^ BitVec.ofInt 64 (h : Int)).toNat : Int) = _
  have e1 : (BitVec.ofInt 64 (-1)).toNat = 18446744073709551615 := by decide
  rw [BitVec.toNat_xor, e1, ofInt_u64 h (by omega), Nat.xor_comm, turned64 h (by omega), IntKind.wrap_i64]
  omega
/-- What is told, in the specification's form. -/
theorem sum_form {k X c : Nat} (hy : X + c % 128 * 128 ^ k < 18446744073709551616) :
    IntKind.u64.wrap ((X : Int) + IntKind.u64.wrap ((c : Int) % 128 * 2 ^ (7 * k))) = ((X + c % 128 * 128 ^ k : Nat) : Int) := by
  have e2 : (128 : Nat) ^ k = 2 ^ (7 * k) := by rw [show (128 : Nat) = 2 ^ 7 by decide, ← Nat.pow_mul]
  have e1 : (c : Int) % 128 = ((c % 128 : Nat) : Int) := by omega
  have h3 : (c : Int) % 128 * 2 ^ (7 * k) = ((c % 128 * 128 ^ k : Nat) : Int) := by rw [e1, e2]; simp
  rw [h3]
  generalize c % 128 * 128 ^ k = q at *
  rw [IntKind.wrap_u64, IntKind.wrap_u64]
  omega
end Pl
end Go.Proofs.YtnbmpbfligdcjaaDoor

/- Beside a fault nothing is told. No Go in sight. -/
namespace Go.Proofs.YtnbmpbfligdcjaaDoor
namespace Pl
theorem getAt_zero (s : ByteArray) (f : Nat) : ∀ p k X, (getAt s f p k X).2.2 ≠ 0 → (getAt s f p k X).1 = 0 ∧ (getAt s f p k X).2.1 = 0 := by
  induction f with
  | zero => intro p k X _; exact ⟨rfl, rfl⟩
  | succ f ih =>
    intro p k X
    rw [getAt]
    simp only
    split
    · intro _; exact ⟨rfl, rfl⟩
    · split
      · split
        · intro _; exact ⟨rfl, rfl⟩
        · exact ih _ _ _
      · split
        · intro _; exact ⟨rfl, rfl⟩
        · intro h; exact absurd rfl h
theorem getNum_zero (s : ByteArray) (a : Int) : (getNum s a).2.2 ≠ 0 → (getNum s a).1 = 0 ∧ (getNum s a).2.1 = 0 := by
  unfold getNum
  split
  · intro _; exact ⟨rfl, rfl⟩
  · split
    · intro _; exact ⟨rfl, rfl⟩
    · exact getAt_zero s _ _ _ _
end Pl
end Go.Proofs.YtnbmpbfligdcjaaDoor

/- Plain facts on reading a text: what stands at a place of a text. No Go in sight. -/
namespace Go.Proofs.YtnbmpbfligdcjaaDoor
namespace Pl
/-- GetText's answer. -/
def getText (s : ByteArray) (a : Int) : ByteArray × Int × Int :=
  if (getNum s a).2.2 ≠ 0 then (⟨#[]⟩, 0, (getNum s a).2.2)
  else if (getNum s a).1 < 0 ∨ 8000 < (getNum s a).1 then (⟨#[]⟩, 0, 3)
  else if (s.size : Int) < (getNum s a).2.1 + (getNum s a).1 then (⟨#[]⟩, 0, 4)
  else (s.extract (getNum s a).2.1.toNat ((getNum s a).2.1.toNat + (getNum s a).1.toNat), (getNum s a).2.1 + (getNum s a).1, 0)
theorem getAt_ok (s : ByteArray) (f : Nat) : ∀ p k X, (getAt s f p k X).2.2 = 0 → ∃ q : Nat, (getAt s f p k X).2.1 = (q : Int) ∧ q ≤ s.size := by
  induction f with
  | zero => intro p k X h; exact absurd h (by simp [getAt])
  | succ f ih =>
    intro p k X
    rw [getAt]
    simp only
    split
    · intro h; exact absurd h (by simp)
    · split
      · split
        · intro h; exact absurd h (by simp)
        · exact ih _ _ _
      · split
        · intro h; exact absurd h (by simp)
        · intro _; exact ⟨p + 1, rfl, by omega⟩
theorem getNum_ok (s : ByteArray) (a : Int) : (getNum s a).2.2 = 0 → s.size ≤ 8000 ∧ ∃ q : Nat, (getNum s a).2.1 = (q : Int) ∧ q ≤ s.size := by
  unfold getNum
  split
  · intro h; exact absurd h (by simp)
  · split
    · intro h; exact absurd h (by simp)
    · intro h; exact ⟨by omega, getAt_ok s _ _ _ _ h⟩
/-- The four ways. -/
theorem getText_cases (s : ByteArray) (a : Int) : ∃ n p c, getNum s a = (n, p, c) ∧
    ((c ≠ 0 ∧ n = 0 ∧ p = 0 ∧ getText s a = (⟨#[]⟩, 0, c)) ∨
     (c = 0 ∧ s.size ≤ 8000 ∧ ∃ q : Nat, p = (q : Int) ∧ q ≤ s.size ∧
      ((n < 0 ∧ getText s a = (⟨#[]⟩, 0, 3)) ∨ (8000 < n ∧ getText s a = (⟨#[]⟩, 0, 3)) ∨
       ∃ m : Nat, n = (m : Int) ∧ m ≤ 8000 ∧ ((s.size < q + m ∧ getText s a = (⟨#[]⟩, 0, 4)) ∨ (q + m ≤ s.size ∧ getText s a = (s.extract q (q + m), (q : Int) + (m : Int), 0)))))) := by
  have hz := getNum_zero s a
  have hk := getNum_ok s a
  unfold getText
  generalize getNum s a = r at *
  obtain ⟨n, p, c⟩ := r
  refine ⟨n, p, c, rfl, ?_⟩
  simp only at *
  by_cases hc : c = 0
  · right
    obtain ⟨h8, q, rfl, hq⟩ := hk hc
    refine ⟨hc, h8, q, rfl, hq, ?_⟩
    rw [if_neg (by simp [hc])]
    by_cases h1 : n < 0
    · left; exact ⟨h1, by rw [if_pos (.inl h1)]⟩
    by_cases h2 : 8000 < n
    · right; left; exact ⟨h2, by rw [if_pos (.inr h2)]⟩
    right; right
    obtain ⟨m, rfl⟩ := Int.eq_ofNat_of_zero_le (Int.not_lt.1 h1)
    refine ⟨m, rfl, by omega, ?_⟩
    rw [if_neg (by omega)]
    by_cases h3 : s.size < q + m
    · left; exact ⟨h3, by rw [if_pos (by omega)]⟩
    · right; exact ⟨by omega, by rw [if_neg (by omega)]; rfl⟩
  · left
    obtain ⟨hn, hp⟩ := hz hc
    exact ⟨hc, hn, hp, by rw [if_pos hc]⟩
end Pl
end Go.Proofs.YtnbmpbfligdcjaaDoor

