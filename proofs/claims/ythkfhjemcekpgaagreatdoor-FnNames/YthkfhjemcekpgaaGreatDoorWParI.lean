/- The walk of the program's PathBase. -/
import Derived.Test.YthkfhjemcekpgaaGreatDoorWParentI
namespace Go.Proofs.YthkfhjemcekpgaaGreatDoor
open Go.RowKit
namespace WPathI
set_option maxRecDepth 100000 in
set_option maxHeartbeats 400000 in
theorem base_any (s : ByteArray) (w : World) (hs : s.size ≤ 1048576) :
    Calls Tryz.prog 57 #[.string s] w fun e w' => e = .returned (.string (Pl.glue ((Pl.namesR s).drop ((Pl.namesR s).length - 1)))) ∧ Below w.heap.size w w' := by
  have hn := hide (WNames.any s w hs)
  have hL := hide (Pl.namesR_all s)
  generalize Pl.pathB s = r at hn
  generalize Pl.namesR s = L at hn hL
  go_enter Tryz.func57, Tryz.ntmps57
  go_wp2_with fail
  refine (unhide hn).mono ?_
  rintro e w1 ⟨v, rfl, hown, hb⟩
  clear hn
  rcases Mem.texts hown with ⟨rfl, rfl⟩ | ⟨g, cap, rfl, hcap, hm, hgb, hgl, hcell⟩
  · clear hown
    go_wp2_with fail
    refine (WPathOf.any _ [] _ (by simp) (by decide) (.inl ⟨rfl, rfl⟩)).mono ?_
    rintro e w2 ⟨rfl, hb2⟩
    have hb3 := hb.trans (hb2.mono hb.size)
    clear hb hb2
    go_wp2
    go_ret
    exact ⟨rfl, hb3⟩
  · clear hown
    have hm2 := hm
    have HC := hide hcell
    clear hcell
    unfold maxLen at hm2
    by_cases h0 : L.length = 0
    · obtain rfl : L = [] := List.eq_nil_of_length_eq_zero h0
      go_wp2_with fail
      refine (WPathOf.any _ [] _ (by simp) (by decide) (.inr ⟨g, 0, cap, rfl, hgl, fun j t h => by simp at h⟩)).mono ?_
      rintro e w2 ⟨rfl, hb2⟩
      have hb3 := hb.trans (hb2.mono hb.size)
      clear hb hb2
      go_wp2
      go_ret
      exact ⟨rfl, hb3⟩
    · have h1 : (0 : Int) ≤ (L.length : Int) - 1 := by omega
      have h2 : (L.length : Int) - 1 ≤ (L.length : Int) := by omega
      have h3 : cap ≠ L.length - 1 := by omega
      go_wp2_with fail
      refine (WPathOf.any _ (L.drop (L.length - 1)) _ ?_ (Pl.glue_small (Pl.all_drop (unhide hL).1 _) ?_) (Mem.drop_texts hgl (unhide HC) _)).mono ?_
      · have := (unhide hL).2; simp; omega
      · have := (unhide hL).2; simp; omega
      rintro e w2 ⟨rfl, hb2⟩
      have hb3 := hb.trans (hb2.mono hb.size)
      clear hb hb2
      go_wp2
      go_ret
      exact ⟨rfl, hb3⟩
end WPathI
end Go.Proofs.YthkfhjemcekpgaaGreatDoor
