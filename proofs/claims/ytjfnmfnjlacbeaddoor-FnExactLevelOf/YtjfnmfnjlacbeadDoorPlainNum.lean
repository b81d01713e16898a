/- The numbers of a nest, if it is right. -/
import Derived.Test.YtjfnmfnjlacbeadDoorPlainItem
namespace Go.Proofs.YtjfnmfnjlacbeadDoor
namespace Pl
def depthO : Option Fo → Int
  | none => 0
  | some k => (k.depth : Int) + 1
def leavesO : Option Fo → Int
  | none => 0
  | some k => (k.leaves : Int)
def levelO : Option Fo → Int
  | none => 0
  | some k => (k.level : Int)
theorem parse_some (f : Nat) : ∀ k L F R, parse f k L = some (F, R) → ∀ i, i + R.length < L.length → L[i]? ≠ some none := by
  induction f with
  | zero =>
    intro k L F R h
    cases k with
    | zero => simp [parse] at h; obtain ⟨rfl, rfl⟩ := h; intro i hi; omega
    | succ k => simp [parse] at h
  | succ f ih =>
    intro k L F R h
    cases k with
    | zero => simp [parse] at h; obtain ⟨rfl, rfl⟩ := h; intro i hi; omega
    | succ k =>
      match L, h with
      | [], h => simp [parse] at h
      | none :: L, h => simp [parse] at h
      | some m :: L, h =>
        simp only [parse] at h
        split at h
        · cases h
        · rename_i kids R1 h1
          split at h
          · cases h
          · rename_i more R2 h2
            cases h
            have a1 := ih _ _ _ _ h1
            have a2 := ih _ _ _ _ h2
            obtain ⟨-, l1, n, e1⟩ := parse_len _ _ _ _ _ h1
            intro i hi
            cases i with
            | zero => simp
            | succ i =>
              simp only [List.length_cons] at hi
              rw [List.getElem?_cons_succ]
              by_cases hlt : i + R1.length < L.length
              · exact a1 i hlt
              · have hn : R1.length = L.length - n := by rw [e1, List.length_drop]
                have := a2 (i - n) (by omega)
                rw [e1, List.getElem?_drop] at this
                by_cases hin : n ≤ i
                · rw [show n + (i - n) = i by omega] at this; exact this
                · omega
theorem nest_nonone {L : Row} {k : Fo} (h : nest L = some k) (i : Nat) : L[i]? ≠ some none := by
  intro hi
  have hlt := (List.getElem?_eq_some_iff.1 hi).1
  exact parse_some _ _ _ _ _ (nest_yes h).2.1 i (by simpa using hlt) hi
end Pl
end Go.Proofs.YtjfnmfnjlacbeadDoor
