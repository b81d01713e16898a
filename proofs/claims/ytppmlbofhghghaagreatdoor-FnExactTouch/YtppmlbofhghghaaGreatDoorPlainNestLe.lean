import Derived.Test.YtppmlbofhghghaaGreatDoorG27
namespace Go.Proofs.YtppmlbofhghghaaGreatDoor
namespace Pl
theorem yf2 (XS : List (Int × List Nd)) (n : Nd) (pc : List Nd → Int) (lf : List Nd → List Nd → Int → List Nd) : (zb5 XS n pc lf).2.length ≤ 12 ∧ ∀ x ∈ (zb5 XS n pc lf).2, x.2.length ≤ 40 := by
 have hnil : ∀ c : Int, ((c, ([] : List (Int × List Nd))).2).length ≤ 12 ∧ ∀ x ∈ (c, ([] : List (Int × List Nd))).2, x.2.length ≤ 40 := fun c => ⟨by simp, fun x hx => by cases hx⟩
 by_cases hC : begC XS n = 0
 ·by_cases hp : pc (zc5 XS) = 0
  ·obtain ⟨F, hF⟩ := Option.isSome_iff_exists.1 (zu8 hC).2.2.2.1
   obtain ⟨L, k, -, hfl, hko, hx⟩ := zm8 hF
   rw [yh hC hx hfl hp]
   by_cases h40 : 40 < (lf (zc5 XS) (zg9 (zc5 XS) (zd5 L k) (zj4 n.path)) (k.shape.level : Int)).length
   ·rw [if_pos h40, if_pos h40]; exact hnil 9
   ·rw [if_neg h40, if_neg h40]
    refine ⟨by rw [List.length_set]; exact zn4 hF, fun x hx => ?_⟩
    rcases List.mem_or_eq_of_mem_set hx with h | h
    ·rw [← hfl] at h
     exact ((zd2 _).1 (Fx.ok_mem hko x h).1).1
    ·rw [h]; exact Nat.le_of_not_lt h40
  ·rw [beg_pc hC hp]; exact hnil _
 ·rw [yd0 hC]; exact hnil _
end Pl
end Go.Proofs.YtppmlbofhghghaaGreatDoor
