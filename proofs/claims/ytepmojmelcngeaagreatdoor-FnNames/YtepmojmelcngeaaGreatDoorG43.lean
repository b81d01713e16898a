/- Several texts of one claim in one file: PlainPutM, PlainKid. -/
import Derived.Test.YtepmojmelcngeaaGreatDoorG05
import Derived.Test.YtepmojmelcngeaaGreatDoorG03
/- What a put leaves. -/
namespace Go.Proofs.YtepmojmelcngeaaGreatDoor
namespace Pl
theorem put_mem {L : List Nd} {n m : Nd} (h : m ∈ putL L n) : m = n ∨ m ∈ L := by
  rw [putL, List.mem_append, List.mem_cons] at h
  rcases h with h | h | h
  · exact .inr ((List.takeWhile_sublist _).mem h)
  · exact .inl h
  · right
    have h2 : m ∈ L.dropWhile (aheadP n) := by
      generalize L.dropWhile (aheadP n) = D at h ⊢
      cases D with
      | nil => simp [restP] at h
      | cons x D =>
        simp only [restP] at h
        split at h
        · exact List.mem_cons_of_mem _ h
        · exact h
    exact (List.dropWhile_sublist _).mem h2
end Pl
end Go.Proofs.YtepmojmelcngeaaGreatDoor

/- The names of a node's path. -/
namespace Go.Proofs.YtepmojmelcngeaaGreatDoor
namespace Pl
theorem kid_names {q p : ByteArray} (hq : pathB q = true) (h0 : q.size ≠ 0) (h : parent q = p) : names q = names p ++ [base q] := by
  have hn : names p = (names q).dropLast := by rw [← h, parent_right hq, parent_names hq]
  have hne : names q ≠ [] := names_ne h0
  have hl := List.length_pos_iff.2 hne
  have hc : (names q).dropLast ++ [(names q).getLast hne] = names q := List.dropLast_concat_getLast hne
  have hd : (names q).drop ((names q).length - 1) = [(names q).getLast hne] := by
    have e : (names q).length - 1 = (names q).dropLast.length := by rw [List.length_dropLast]
    rw [e]
    conv => lhs; arg 2; rw [← hc]
    exact List.drop_left
  rw [hn, base_glue, hd, glue_one, hc]
theorem tree_nodes {L : List Nd} (h : treeB L = true) : ∀ n ∈ L, pathB n.path = true ∧ n.path.size ≠ 0 := by
  simp only [treeB, Bool.and_eq_true, decide_eq_true_eq] at h
  exact fun n hn => node_right (goI_all L _ _ h.2 n hn)
end Pl
end Go.Proofs.YtepmojmelcngeaaGreatDoor

