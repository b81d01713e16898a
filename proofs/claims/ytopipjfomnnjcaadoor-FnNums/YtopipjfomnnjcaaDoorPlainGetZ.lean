/- Beside a fault nothing is told. No Go in sight. -/
import Derived.Test.YtopipjfomnnjcaaDoorPlainGet
namespace Go.Proofs.YtopipjfomnnjcaaDoor
namespace Pl
theorem getAt_zero (s : ByteArray) (f : Nat) : ∀ p k X, (getAt s f p k X).2.2 ≠ 0 → (getAt s f p k X).1 = 0 ∧ (getAt s f p k X).2.1 = 0 := by
  induction f with
  | zero => intro p k X _; exact ⟨rfl, rfl⟩
  | succ f ih =>
    intro p k X
    rw [getAt]
    simp only
    split
    · intro _; exact ⟨rfl, rfl⟩
    · split
      · split
        · intro _; exact ⟨rfl, rfl⟩
        · exact ih _ _ _
      · split
        · intro _; exact ⟨rfl, rfl⟩
        · intro h; exact absurd rfl h
theorem getNum_zero (s : ByteArray) (a : Int) : (getNum s a).2.2 ≠ 0 → (getNum s a).1 = 0 ∧ (getNum s a).2.1 = 0 := by
  unfold getNum
  split
  · intro _; exact ⟨rfl, rfl⟩
  · split
    · intro _; exact ⟨rfl, rfl⟩
    · exact getAt_zero s _ _ _ _
end Pl
end Go.Proofs.YtopipjfomnnjcaaDoor
