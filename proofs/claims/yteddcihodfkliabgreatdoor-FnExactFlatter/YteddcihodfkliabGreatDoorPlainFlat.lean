/- A nest with the layers of its last one in the place of that: plain. -/
import Derived.Test.YteddcihodfkliabGreatDoorPartN
namespace Go.Proofs.YteddcihodfkliabGreatDoor
namespace Pl
namespace Fx
/-- All but the last one, and the last one. -/
def splitL : Fx → Fx × List Nd × Fx
  | .nil => (.nil, [], .nil)
  | .cons L k m => if m.len = 0 then (.nil, L, k) else (.cons L k m.splitL.1, m.splitL.2)
theorem split_app (X : Fx) : X.len ≠ 0 → X = X.splitL.1.app (.cons X.splitL.2.1 X.splitL.2.2 .nil) ∧ X.splitL.1.len + 1 = X.len := by
  induction X with
  | nil => intro h; exact absurd rfl h
  | cons L k m _ ih =>
    intro _
    by_cases hm : m.len = 0
    · have e := len_zero hm
      subst e
      exact ⟨rfl, rfl⟩
    · obtain ⟨h1, h2⟩ := ih hm
      rw [splitL, if_neg hm]
      refine ⟨?_, ?_⟩
      · show Fx.cons L k m = Fx.cons L k (m.splitL.1.app (.cons m.splitL.2.1 m.splitL.2.2 .nil))
        rw [← h1]
      · show m.splitL.1.len + 1 + 1 = m.len + 1
        rw [h2]
theorem ok_split {a b : Fx} (h : (a.app b).okX) : a.okX ∧ b.okX := by
  induction a with
  | nil => exact ⟨trivial, h⟩
  | cons L k m _ ih =>
    obtain ⟨h1, h2, h3, h4, h5⟩ := h
    obtain ⟨g1, g2⟩ := ih h5
    exact ⟨⟨h1, h2, h3, h4, g1⟩, g2⟩
theorem sz_app (a b : Fx) : (a.app b).sz = a.sz + b.sz := by
  induction a with
  | nil => simp [app, sz]
  | cons L k m _ ih => rw [app, sz, sz, ih]; omega
/-- A nest made flatter. -/
def flatK (K : Fx) : Option Fx := if K.len < 2 then none else if K.splitL.2.2.len = 0 ∨ 4 < K.splitL.1.len + K.splitL.2.2.len then none else some (K.splitL.1.app K.splitL.2.2)
end Fx
end Pl
end Go.Proofs.YteddcihodfkliabGreatDoor
