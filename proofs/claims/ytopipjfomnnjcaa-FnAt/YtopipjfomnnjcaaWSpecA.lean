/- The walks of the specification's PathParent, PathBase, PathNames and PathUnder. -/
import Derived.Test.YtopipjfomnnjcaaWBase1S
import Derived.Test.YtopipjfomnnjcaaWSpecR
import Derived.Test.YtopipjfomnnjcaaPlainPar
import Derived.Test.YtopipjfomnnjcaaPlainR
namespace Go.Proofs.Ytopipjfomnnjcaa
open Go.RowKit
namespace WPathS
set_option maxRecDepth 100000 in
theorem parentF_any (s : ByteArray) (w : World) (hs : s.size ≤ 1048576) :
    Calls Try.prog 30 #[.string s] w fun e w' => e = .returned (.string (Pl.glue (Pl.namesR s).dropLast)) ∧ Below w.heap.size w w' := by
  have hm : s.size ≤ maxLen := by unfold maxLen; omega
  have hr := hide (fun W => right_any s W hm)
  have hc := hide (fun W => parent_any s W hm)
  cases hB : Pl.pathB s
  · have E : Hid (Pl.glue (Pl.namesR s).dropLast = ⟨#[]⟩) := by show _ = _; rw [Pl.namesR_no hB]; rfl
    have HB := hide hB
    clear hB
    generalize Pl.glue (Pl.namesR s).dropLast = R at E ⊢
    by_cases h8 : 8000 < s.size
    · go_enter Try.func30, Try.ntmps30
      go_wp2
      go_ret
      exact ⟨ret_string (unhide E).symm, Below.refl _ _⟩
    · go_enter Try.func30, Try.ntmps30
      go_wp2_with (go_at_call 34; refine (unhide hr _).mono ?_; rw [unhide HB]; rintro e w1 ⟨rfl, b1⟩)
      go_ret
      exact ⟨ret_string (unhide E).symm, b1⟩
  · have E : Hid (Pl.parent s = Pl.glue (Pl.namesR s).dropLast) := by show _ = _; rw [Pl.namesR_yes hB]; exact Pl.parent_glue s
    have h8 : ¬ 8000 < s.size := fun h => by rw [Pl.pathB_long (by omega)] at hB; cases hB
    have HB := hide hB
    clear hB
    generalize Pl.glue (Pl.namesR s).dropLast = R at E ⊢
    generalize Pl.parent s = R2 at E hc
    go_enter Try.func30, Try.ntmps30
    go_wp2_with (first | (go_at_call 34; refine (unhide hr _).mono ?_; rw [unhide HB]; rintro e w1 ⟨rfl, b1⟩) | (go_at_call 70; refine (unhide hc _).mono ?_; rintro e w' ⟨rfl, hw⟩; obtain rfl := hw.symm))
    go_ret
    exact ⟨ret_string (unhide E), b1⟩

set_option maxRecDepth 100000 in
theorem baseF_any (s : ByteArray) (w : World) (hs : s.size ≤ 1048576) :
    Calls Try.prog 32 #[.string s] w fun e w' => e = .returned (.string (Pl.glue ((Pl.namesR s).drop ((Pl.namesR s).length - 1)))) ∧ Below w.heap.size w w' := by
  have hm : s.size ≤ maxLen := by unfold maxLen; omega
  have hr := hide (fun W => right_any s W hm)
  have hc := hide (fun W => base1_any s W hm)
  cases hB : Pl.pathB s
  · have E : Hid (Pl.glue ((Pl.namesR s).drop ((Pl.namesR s).length - 1)) = ⟨#[]⟩) := by show _ = _; rw [Pl.namesR_no hB]; rfl
    have HB := hide hB
    clear hB
    generalize Pl.glue ((Pl.namesR s).drop ((Pl.namesR s).length - 1)) = R at E ⊢
    by_cases h8 : 8000 < s.size
    · go_enter Try.func32, Try.ntmps32
      go_wp2
      go_ret
      exact ⟨ret_string (unhide E).symm, Below.refl _ _⟩
    · go_enter Try.func32, Try.ntmps32
      go_wp2_with (go_at_call 34; refine (unhide hr _).mono ?_; rw [unhide HB]; rintro e w1 ⟨rfl, b1⟩)
      go_ret
      exact ⟨ret_string (unhide E).symm, b1⟩
  · have E : Hid (Pl.base s = Pl.glue ((Pl.namesR s).drop ((Pl.namesR s).length - 1))) := by show _ = _; rw [Pl.namesR_yes hB]; exact Pl.base_glue s
    have h8 : ¬ 8000 < s.size := fun h => by rw [Pl.pathB_long (by omega)] at hB; cases hB
    have HB := hide hB
    clear hB
    generalize Pl.glue ((Pl.namesR s).drop ((Pl.namesR s).length - 1)) = R at E ⊢
    generalize Pl.base s = R2 at E hc
    go_enter Try.func32, Try.ntmps32
    go_wp2_with (first | (go_at_call 34; refine (unhide hr _).mono ?_; rw [unhide HB]; rintro e w1 ⟨rfl, b1⟩) | (go_at_call 71; refine (unhide hc _).mono ?_; rintro e w' ⟨rfl, hw⟩; obtain rfl := hw.symm))
    go_ret
    exact ⟨ret_string (unhide E), b1⟩

set_option maxRecDepth 100000 in
theorem namesF_any (s : ByteArray) (w : World) (hs : s.size ≤ 1048576) :
    Calls Try.prog 28 #[.string s] w fun e w' => ∃ v, e = .returned v ∧
      w'.ownsRow w.heap.size 9 1 v (Pl.namesR s).length ((Pl.namesR s).map Value.string) ∧ Below w.heap.size w w' := by
  have hm : s.size ≤ maxLen := by unfold maxLen; omega
  have hr := hide (fun W => right_any s W hm)
  have hc := hide (fun W => names_any s W hs)
  cases hB : Pl.pathB s
  · have E := hide (Pl.namesR_no hB)
    have HB := hide hB
    clear hB
    by_cases h8 : 8000 < s.size
    · go_enter Try.func28, Try.ntmps28
      go_wp2
      go_ret
      exact ⟨_, rfl, by rw [unhide E]; exact World.ownsRow_made _ _ 0 (Nat.le_refl _) (Nat.zero_le _) rfl, (Below.refl _ _).alloc (Nat.le_refl _) _⟩
    · go_enter Try.func28, Try.ntmps28
      go_wp2_with (go_at_call 34; refine (unhide hr _).mono ?_; rw [unhide HB]; rintro e w1 ⟨rfl, b1⟩)
      go_ret
      exact ⟨_, rfl, by rw [unhide E]; exact World.ownsRow_made _ _ 0 b1.size (Nat.zero_le _) rfl, b1.alloc b1.size _⟩
  · have E := hide (Pl.namesR_yes hB)
    have h8 : ¬ 8000 < s.size := fun h => by rw [Pl.pathB_long (by omega)] at hB; cases hB
    have HB := hide hB
    clear hB
    go_enter Try.func28, Try.ntmps28
    go_wp2_with (first | (go_at_call 34; refine (unhide hr _).mono ?_; rw [unhide HB]; rintro e w1 ⟨rfl, b1⟩) | (go_at_call 64; refine (unhide hc _).mono ?_; rintro e w2 ⟨v, rfl, hown, b2⟩; have HO := hide hown; clear hown))
    go_ret
    exact ⟨_, rfl, by rw [unhide E]; exact Mem.own_mono (unhide HO) b1.size, b1.trans (b2.mono b1.size)⟩
end WPathS
end Go.Proofs.Ytopipjfomnnjcaa
