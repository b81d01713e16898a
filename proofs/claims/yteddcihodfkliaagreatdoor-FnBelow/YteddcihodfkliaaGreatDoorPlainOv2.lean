/- What Over answers, plainly. -/
import Derived.Test.YteddcihodfkliaaGreatDoorPartL
import Derived.Test.YteddcihodfkliaaGreatDoorPartY
namespace Go.Proofs.YteddcihodfkliaaGreatDoor
namespace Pl
theorem over_small (Ls : List (List Nd)) : ∀ n ∈ overN Ls (allO Ls), n.path.size ≤ 1048576 ∧ n.data.size ≤ 1048576 := by
  intro n hn
  unfold overN at hn
  split at hn
  · rename_i h
    obtain ⟨h4, htr⟩ := lay_ok h.1
    have h2 := told_ok htr (((all_told h4 htr).mem n).1 hn)
    have := pathB_le h2.1
    exact ⟨by omega, h2.2⟩
  · cases hn
theorem all_lay (Ls : List (List Nd)) (h : layB Ls = true) : AllN Ls (allO Ls) := all_told (lay_ok h).1 (lay_ok h).2
theorem over_le (Ls : List (List Nd)) (O : List Nd) : (overN Ls O).length ≤ 40 := by
  unfold overN
  split
  · rename_i h; exact h.2
  · exact Nat.zero_le _
theorem over_all {Ls : List (List Nd)} (h : overC Ls (allO Ls) = 0) : layB Ls = true ∧ (allO Ls).length ≤ 40 ∧ overN Ls (allO Ls) = allO Ls := by
  unfold overC at h
  split at h
  · rename_i hl
    split at h
    · cases h
    · rename_i h40
      have h41 : (allO Ls).length ≤ 40 := by omega
      exact ⟨hl, h41, by rw [overN, if_pos ⟨hl, h41⟩]⟩
  · cases h
theorem over_tree {Ls : List (List Nd)} (h : overC Ls (allO Ls) = 0) : treeB (overN Ls (allO Ls)) = true := by
  obtain ⟨h1, h2, h3⟩ := over_all h
  rw [h3]
  exact all_tree (lay_ok h1).1 (lay_ok h1).2 h2
theorem over_get {Ls : List (List Nd)} (h : overC Ls (allO Ls) = 0) (p : ByteArray) : getV (overN Ls (allO Ls)) p = seenV Ls p := by
  obtain ⟨h1, h2, h3⟩ := over_all h
  rw [h3]
  exact (seen_get h1 h2 p).symm
end Pl
end Go.Proofs.YteddcihodfkliaaGreatDoor
