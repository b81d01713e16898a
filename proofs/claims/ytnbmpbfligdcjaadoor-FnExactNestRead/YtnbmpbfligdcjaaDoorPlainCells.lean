/- The cells of a row of items. -/
import Derived.Test.YtnbmpbfligdcjaaDoorG26
namespace Go.Proofs.YtnbmpbfligdcjaaDoor
open Go.RowKit
namespace Pl
/-- The cells of a row of items. -/
def cellsI (Is : List It) : List Value := Is.flatMap (fun x => [Value.int .i64 x.m, x.t.val])
theorem cellsI_len (Is : List It) : (cellsI Is).length = Is.length * 2 := by
  induction Is with
  | nil => rfl
  | cons x Is ih => rw [cellsI, List.flatMap_cons, List.length_append, ← cellsI, ih, List.length_cons]; simp; omega
theorem cellsI_app (A B : List It) : cellsI (A ++ B) = cellsI A ++ cellsI B := by simp [cellsI]
theorem cellsI_at : ∀ (Is : List It) (i : Nat) (x : It), Is[i]? = some x → (cellsI Is)[i * 2]? = some (.int .i64 x.m) ∧ (cellsI Is)[i * 2 + 1]? = some x.t.val := by
  intro Is
  induction Is with
  | nil => intro i x h; cases h
  | cons y Is ih =>
    intro i x h
    have e : cellsI (y :: Is) = Value.int .i64 y.m :: y.t.val :: cellsI Is := rfl
    cases i with
    | zero =>
      have e2 : y = x := by simpa using h
      subst e2
      rw [e]
      exact ⟨rfl, rfl⟩
    | succ i =>
      have h2 : Is[i]? = some x := by simpa using h
      obtain ⟨h3, h4⟩ := ih i x h2
      rw [e, show (i + 1) * 2 = i * 2 + 1 + 1 by omega]
      exact ⟨by simpa using h3, by simpa using h4⟩
theorem cellsI_one (Is : List It) : ∀ u ∈ cellsI Is, u.oneCell' = true := by
  intro u hu
  obtain ⟨x, -, hx⟩ := List.mem_flatMap.1 hu
  simp only [List.mem_cons, List.not_mem_nil, or_false] at hx
  rcases hx with rfl | rfl <;> rfl
end Pl
end Go.Proofs.YtnbmpbfligdcjaaDoor
