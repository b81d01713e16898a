import Derived.Test.YtfdbokipgofcdaaGreatDoorG11
namespace Go.Proofs.YtfdbokipgofcdaaGreatDoor
open Go.RowKit
namespace Pl
def zb9 (Is : List It) : List Value := Is.flatMap (fun x => [Value.int .i64 x.m, x.t.val])
theorem zp3 (Is : List It) : (zb9 Is).length = Is.length * 2 := by
 induction Is with
 | nil => rfl
 | cons x Is ih => rw [zb9, List.flatMap_cons, List.length_append, ← zb9, ih, List.length_cons]; simp; omega
theorem zg0 (A B : List It) : zb9 (A ++ B) = zb9 A ++ zb9 B := by simp [zb9]
theorem zt0 : ∀ (Is : List It) (i : Nat) (x : It), Is[i]? = some x → (zb9 Is)[i * 2]? = some (.int .i64 x.m) ∧ (zb9 Is)[i * 2 + 1]? = some x.t.val := by
 intro Is
 induction Is with
 | nil => intro i x h; cases h
 | cons y Is ih =>
  intro i x h
  have e : zb9 (y :: Is) = Value.int .i64 y.m :: y.t.val :: zb9 Is := rfl
  cases i with
  | zero =>
   have e2 : y = x := by simpa using h
   subst e2
   rw [e]
   exact ⟨rfl, rfl⟩
  | succ i =>
   have h2 : Is[i]? = some x := by simpa using h
   obtain ⟨h3, h4⟩ := ih i x h2
   rw [e, show (i + 1) * 2 = i * 2 + 1 + 1 by omega]
   exact ⟨by simpa using h3, by simpa using h4⟩
theorem zv5 (Is : List It) : ∀ u ∈ zb9 Is, u.oneCell' = true := by
 intro u hu
 obtain ⟨x, -, hx⟩ := List.mem_flatMap.1 hu
 simp only [List.mem_cons, List.not_mem_nil, or_false] at hx
 rcases hx with rfl | rfl <;> rfl
end Pl
end Go.Proofs.YtfdbokipgofcdaaGreatDoor
