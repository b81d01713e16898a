/- Plain facts on reading a text: what stands at a place of a text. No Go in sight. -/
import Derived.Test.YtopipjfomnnjcaaDoorPlainGetZ
namespace Go.Proofs.YtopipjfomnnjcaaDoor
namespace Pl
/-- GetText's answer. -/
def getText (s : ByteArray) (a : Int) : ByteArray × Int × Int :=
  if (getNum s a).2.2 ≠ 0 then (⟨#[]⟩, 0, (getNum s a).2.2)
  else if (getNum s a).1 < 0 ∨ 8000 < (getNum s a).1 then (⟨#[]⟩, 0, 3)
  else if (s.size : Int) < (getNum s a).2.1 + (getNum s a).1 then (⟨#[]⟩, 0, 4)
  else (s.extract (getNum s a).2.1.toNat ((getNum s a).2.1.toNat + (getNum s a).1.toNat), (getNum s a).2.1 + (getNum s a).1, 0)
theorem getAt_ok (s : ByteArray) (f : Nat) : ∀ p k X, (getAt s f p k X).2.2 = 0 → ∃ q : Nat, (getAt s f p k X).2.1 = (q : Int) ∧ q ≤ s.size := by
  induction f with
  | zero => intro p k X h; exact absurd h (by simp [getAt])
  | succ f ih =>
    intro p k X
    rw [getAt]
    simp only
    split
    · intro h; exact absurd h (by simp)
    · split
      · split
        · intro h; exact absurd h (by simp)
        · exact ih _ _ _
      · split
        · intro h; exact absurd h (by simp)
        · intro _; exact ⟨p + 1, rfl, by omega⟩
theorem getNum_ok (s : ByteArray) (a : Int) : (getNum s a).2.2 = 0 → s.size ≤ 8000 ∧ ∃ q : Nat, (getNum s a).2.1 = (q : Int) ∧ q ≤ s.size := by
  unfold getNum
  split
  · intro h; exact absurd h (by simp)
  · split
    · intro h; exact absurd h (by simp)
    · intro h; exact ⟨by omega, getAt_ok s _ _ _ _ h⟩
/-- The four ways. -/
theorem getText_cases (s : ByteArray) (a : Int) : ∃ n p c, getNum s a = (n, p, c) ∧
    ((c ≠ 0 ∧ n = 0 ∧ p = 0 ∧ getText s a = (⟨#[]⟩, 0, c)) ∨
     (c = 0 ∧ s.size ≤ 8000 ∧ ∃ q : Nat, p = (q : Int) ∧ q ≤ s.size ∧
      ((n < 0 ∧ getText s a = (⟨#[]⟩, 0, 3)) ∨ (8000 < n ∧ getText s a = (⟨#[]⟩, 0, 3)) ∨
       ∃ m : Nat, n = (m : Int) ∧ m ≤ 8000 ∧ ((s.size < q + m ∧ getText s a = (⟨#[]⟩, 0, 4)) ∨ (q + m ≤ s.size ∧ getText s a = (s.extract q (q + m), (q : Int) + (m : Int), 0)))))) := by
  have hz := getNum_zero s a
  have hk := getNum_ok s a
  unfold getText
  generalize getNum s a = r at *
  obtain ⟨n, p, c⟩ := r
  refine ⟨n, p, c, rfl, ?_⟩
  simp only at *
  by_cases hc : c = 0
  · right
    obtain ⟨h8, q, rfl, hq⟩ := hk hc
    refine ⟨hc, h8, q, rfl, hq, ?_⟩
    rw [if_neg (by simp [hc])]
    by_cases h1 : n < 0
    · left; exact ⟨h1, by rw [if_pos (.inl h1)]⟩
    by_cases h2 : 8000 < n
    · right; left; exact ⟨h2, by rw [if_pos (.inr h2)]⟩
    right; right
    obtain ⟨m, rfl⟩ := Int.eq_ofNat_of_zero_le (Int.not_lt.1 h1)
    refine ⟨m, rfl, by omega, ?_⟩
    rw [if_neg (by omega)]
    by_cases h3 : s.size < q + m
    · left; exact ⟨h3, by rw [if_pos (by omega)]⟩
    · right; exact ⟨by omega, by rw [if_neg (by omega)]; rfl⟩
  · left
    obtain ⟨hn, hp⟩ := hz hc
    exact ⟨hc, hn, hp, by rw [if_pos hc]⟩
end Pl
end Go.Proofs.YtopipjfomnnjcaaDoor
