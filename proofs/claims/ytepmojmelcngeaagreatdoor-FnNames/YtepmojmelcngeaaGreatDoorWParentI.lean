/- The walk of the program's PathParent. -/
import Derived.Test.YtepmojmelcngeaaGreatDoorG09
import Derived.Test.YtepmojmelcngeaaGreatDoorG17
namespace Go.Proofs.YtepmojmelcngeaaGreatDoor
open Go.RowKit
namespace WPathI
set_option maxRecDepth 100000 in
set_option maxHeartbeats 4000000 in
theorem parent_any (s : ByteArray) (w : World) (hs : s.size ≤ 1048576) :
    Calls Tryz.prog 51 #[.string s] w fun e w' => e = .returned (.string (Pl.glue (Pl.namesR s).dropLast)) ∧ Below w.heap.size w w' := by
  have hn := hide (WNames.any s w hs)
  have hL := hide (Pl.namesR_all s)
  generalize Pl.pathB s = r at hn
  generalize Pl.namesR s = L at hn hL
  go_enter Tryz.func51, Tryz.ntmps51
  go_wp2_with fail
  refine (unhide hn).mono ?_
  rintro e w1 ⟨v, rfl, hown, hb⟩
  clear hn
  rcases Mem.texts hown with ⟨rfl, rfl⟩ | ⟨g, cap, rfl, hcap, hm, hgb, hgl, hcell⟩
  · clear hown
    go_wp2_with fail
    refine (WPathOf.any _ [] _ (by simp) (by decide) (.inl ⟨rfl, rfl⟩)).mono ?_
    rintro e w2 ⟨rfl, hb2⟩
    have hb3 := hb.trans (hb2.mono hb.size)
    clear hb hb2
    go_wp2
    go_ret
    exact ⟨rfl, hb3⟩
  · clear hown
    have hm2 := hm
    have HC := hide hcell
    clear hcell
    unfold maxLen at hm2
    by_cases h0 : L.length = 0
    · obtain rfl : L = [] := List.eq_nil_of_length_eq_zero h0
      go_wp2_with fail
      refine (WPathOf.any _ [] _ (by simp) (by decide) (.inr ⟨g, 0, cap, rfl, hgl, fun j t h => by simp at h⟩)).mono ?_
      rintro e w2 ⟨rfl, hb2⟩
      have hb3 := hb.trans (hb2.mono hb.size)
      clear hb hb2
      go_wp2
      go_ret
      exact ⟨rfl, hb3⟩
    · have h1 : (0 : Int) ≤ (L.length : Int) - 1 := by omega
      have h2 : (L.length : Int) - 1 ≤ (cap : Int) := by omega
      have E := hide (Pl.drop_last L)
      go_wp2_with fail
      try rw [show (max ((L.length : Int) - 1) 0).toNat = L.length - 1 by omega]
      refine (WPathOf.any _ (L.take (L.length - 1)) _ ?_ (Pl.glue_small (Pl.all_take (unhide hL).1 _) ?_) (Mem.take_texts hgl (unhide HC) _ (by omega))).mono ?_
      · have := (unhide hL).2; simp; omega
      · have := (unhide hL).2; simp; omega
      rintro e w2 ⟨rfl, hb2⟩
      rw [unhide E]
      have hb3 := hb.trans (hb2.mono hb.size)
      clear hb hb2
      go_wp2
      go_ret
      exact ⟨rfl, hb3⟩
end WPathI
end Go.Proofs.YtepmojmelcngeaaGreatDoor
