/- Which of two lists of names is ahead. No program in sight. -/
import Derived.Test.YtmamahpeiajigaaGreatDoorPlainPar
import Derived.WalkKit
namespace Go.Proofs.YtmamahpeiajigaaGreatDoor
namespace Pl
def lessL : List ByteArray → List ByteArray → Bool
  | [], [] => false
  | [], _ :: _ => true
  | _ :: _, [] => false
  | a :: A, b :: B => if a = b then lessL A B else Op.bytesLess a.toList b.toList
theorem less_same {A B : List ByteArray} {k : Nat} {a b : ByteArray} (ha : A[k]? = some a) (hb : B[k]? = some b) (h : a = b) : lessL (A.drop k) (B.drop k) = lessL (A.drop (k + 1)) (B.drop (k + 1)) := by
  have h1 := (List.getElem?_eq_some_iff.1 ha)
  have h2 := (List.getElem?_eq_some_iff.1 hb)
  rw [List.drop_eq_getElem_cons h1.1, List.drop_eq_getElem_cons h2.1, lessL, if_pos (by rw [h1.2, h2.2]; exact h)]
theorem less_other {A B : List ByteArray} {k : Nat} {a b : ByteArray} (ha : A[k]? = some a) (hb : B[k]? = some b) (h : a ≠ b) : lessL (A.drop k) (B.drop k) = Op.bytesLess a.toList b.toList := by
  have h1 := (List.getElem?_eq_some_iff.1 ha)
  have h2 := (List.getElem?_eq_some_iff.1 hb)
  rw [List.drop_eq_getElem_cons h1.1, List.drop_eq_getElem_cons h2.1, lessL, if_neg (by rw [h1.2, h2.2]; exact h), h1.2, h2.2]
theorem less_end {A B : List ByteArray} {k : Nat} (h : k = A.length ∧ k ≤ B.length ∨ k = B.length ∧ k ≤ A.length) : lessL (A.drop k) (B.drop k) = decide (A.length < B.length) := by
  rcases h with ⟨rfl, h⟩ | ⟨rfl, h⟩
  · rw [List.drop_length]
    by_cases hl : A.length < B.length
    · rw [List.drop_eq_getElem_cons hl]; simp [lessL, hl]
    · rw [List.drop_of_length_le (by omega)]; simp [lessL, hl]
  · rw [List.drop_length]
    have hn : ¬ A.length < B.length := by omega
    by_cases hl : B.length < A.length
    · rw [List.drop_eq_getElem_cons hl]; simp [lessL, hn]
    · rw [List.drop_of_length_le (by omega)]; simp [lessL, hn]
end Pl
end Go.Proofs.YtmamahpeiajigaaGreatDoor
