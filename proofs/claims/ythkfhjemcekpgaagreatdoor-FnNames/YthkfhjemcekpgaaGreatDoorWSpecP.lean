/- The walk of the specification's PathParent. -/
import Derived.Test.YthkfhjemcekpgaaGreatDoorPartB
import Derived.Test.YthkfhjemcekpgaaGreatDoorPartA
namespace Go.Proofs.YthkfhjemcekpgaaGreatDoor
open Go.RowKit
namespace WPathS
set_option maxRecDepth 100000 in
theorem parentF_any (s : ByteArray) (w : World) (hs : s.size ≤ 1048576) :
    Calls Tryz.prog 27 #[.string s] w fun e w' => e = .returned (.string (Pl.glue (Pl.namesR s).dropLast)) ∧ Below w.heap.size w w' := by
  have hm : s.size ≤ maxLen := by unfold maxLen; omega
  have hr := hide (fun W => right_any s W hm)
  have hc := hide (fun W => parent_any s W hm)
  cases hB : Pl.pathB s
  · have E : Hid (Pl.glue (Pl.namesR s).dropLast = ⟨#[]⟩) := by show _ = _; rw [Pl.namesR_no hB]; rfl
    have HB := hide hB
    clear hB
    generalize Pl.glue (Pl.namesR s).dropLast = R at E ⊢
    by_cases h8 : 8000 < s.size
    · go_enter Tryz.func27, Tryz.ntmps27
      go_wp2
      go_ret
      exact ⟨ret_string (unhide E).symm, Below.refl _ _⟩
    · go_enter Tryz.func27, Tryz.ntmps27
      go_wp2_with (go_at_call 45; refine (unhide hr _).mono ?_; rw [unhide HB]; rintro e w1 ⟨rfl, b1⟩)
      go_ret
      exact ⟨ret_string (unhide E).symm, b1⟩
  · have E : Hid (Pl.parent s = Pl.glue (Pl.namesR s).dropLast) := by show _ = _; rw [Pl.namesR_yes hB]; exact Pl.parent_glue s
    have h8 : ¬ 8000 < s.size := fun h => by rw [Pl.pathB_long (by omega)] at hB; cases hB
    have HB := hide hB
    clear hB
    generalize Pl.glue (Pl.namesR s).dropLast = R at E ⊢
    generalize Pl.parent s = R2 at E hc
    go_enter Tryz.func27, Tryz.ntmps27
    go_wp2_with (first | (go_at_call 45; refine (unhide hr _).mono ?_; rw [unhide HB]; rintro e w1 ⟨rfl, b1⟩) | (go_at_call 49; refine (unhide hc _).mono ?_; rintro e w' ⟨rfl, hw⟩; obtain rfl := hw.symm))
    go_ret
    exact ⟨ret_string (unhide E), b1⟩

end WPathS
end Go.Proofs.YthkfhjemcekpgaaGreatDoor
