/- The words of the desk: the specification's DeskWords, the program's. -/
import Derived.Test.YtgdfadibdioedaaDoorG05
import Derived.Test.YtgdfadibdioedaaDoorProg
import Derived.Laws.AppendOwn
import Derived.WalkKit
import Derived.Deep.RegionHeld3
namespace Go.Proofs.YtgdfadibdioedaaDoor
open Go.RowKit
namespace Pl
def words10 : List ByteArray := [⟨#[99, 100]⟩, ⟨#[99, 108, 111, 115, 101]⟩, ⟨#[100, 101, 116, 97, 99, 104]⟩, ⟨#[102, 108, 97, 116]⟩, ⟨#[103, 101, 116]⟩, ⟨#[108, 105, 115, 116]⟩, ⟨#[109, 107, 100, 105, 114]⟩, ⟨#[109, 111, 117, 110, 116]⟩, ⟨#[111, 112, 101, 110]⟩, ⟨#[112, 117, 116]⟩, ⟨#[114, 101, 97, 100]⟩, ⟨#[114, 109]⟩, ⟨#[116, 111, 117, 99, 104]⟩, ⟨#[117, 109, 111, 117, 110, 116]⟩, ⟨#[119, 114, 105, 116, 101]⟩]
end Pl
namespace WDeskW
set_option maxRecDepth 100000 in
theorem spec_any (w : World) :
    Calls Tryd.prog 4 #[] w fun e w' => (∃ g cap, e = .returned (.slice (some ⟨g, 0, none⟩) 15 cap) ∧ w'.ownsRow w.heap.size 9 1 (.slice (some ⟨g, 0, none⟩) 15 cap) 15 (Pl.words10.map Value.string)) ∧ Below w.heap.size w w' := by
  go_enter Tryd.func4, Tryd.ntmps4
  go_wp2
  go_ret
  refine ⟨⟨w.heap.size, 15, rfl, rfl, .inr ⟨w.heap.size, 15, _, rfl, Nat.le_refl _, heap_alloc_new _ _, ?_, ?_, rfl, rfl⟩⟩, (Below.refl _ _).alloc (Nat.le_refl _) _⟩
  · decide
  · decide
theorem infoS : (Tryd.prog.info? 9).map (fun i => (i.zero, i.size, i.bytes)) = some (some (.string ⟨#[]⟩), 1, 16) := by kernel_rfl
set_option linter.unusedSimpArgs false in
set_option maxRecDepth 100000 in
set_option maxHeartbeats 2000000 in
theorem impl_any (w : World) (hV : ∀ r t, Pl.words10[r]? = some t → w.cell? ⟨0, r, none⟩ = some (.string t)) :
    Calls Tryd.prog 5 #[] w fun e w' => (∃ g cap, e = .returned (.slice (some ⟨g, 0, none⟩) 15 cap) ∧ w'.ownsRow w.heap.size 9 1 (.slice (some ⟨g, 0, none⟩) 15 cap) 15 (Pl.words10.map Value.string)) ∧ Below w.heap.size w w' := by
  have K : ∀ r t, Pl.words10[r]? = some t → (w.alloc (.cells #[] 9)).cell? ⟨0, r, none⟩ = some (.string t) := fun r t h => (World.cell?_alloc_some _ _ _ (by rw [hV r t h]; rfl)).trans (hV r t h)
  have c0 := K 0 _ rfl
  have c1 := K 1 _ rfl
  have c2 := K 2 _ rfl
  have c3 := K 3 _ rfl
  have c4 := K 4 _ rfl
  have c5 := K 5 _ rfl
  have c6 := K 6 _ rfl
  have c7 := K 7 _ rfl
  have c8 := K 8 _ rfl
  have c9 := K 9 _ rfl
  have c10 := K 10 _ rfl
  have c11 := K 11 _ rfl
  have c12 := K 12 _ rfl
  have c13 := K 13 _ rfl
  have c14 := K 14 _ rfl
  have HV := hide hV
  obtain ⟨i0, hi, hz0, hz1, hz2⟩ := info_parts infoS
  clear hV K
  go_enter Tryd.func5, Tryd.ntmps5
  go_wp2
  go_loopw [1, 3, 6] (fun st x i wr => ∃ j : Nat, j ≤ 15 ∧ i = .int .i64 (j : Int) ∧ wr.ownsRow w.heap.size 9 1 st (Pl.words10.take j).length ((Pl.words10.take j).map Value.string) ∧ Below w.heap.size w wr) (fun _ _ i _ => 15 - (intOf i).toNat)
  case atStart => exact ⟨0, by omega, rfl, ⟨rfl, .inr ⟨w.heap.size, 0, #[], rfl, Nat.le_refl _, heap_alloc_new _ _, Nat.le_refl _, Nat.zero_le _, rfl, rfl⟩⟩, (Below.refl _ _).alloc (Nat.le_refl _) _⟩
  case round =>
    obtain ⟨j, hj, rfl, hown, hbel⟩ := hrel
    have hb1 := hbel.size
    clear c0 c1 c2 c3 c4 c5 c6 c7 c8 c9 c10 c11 c12 c13 c14
    by_cases hlt : j < 15
    · have HS : Hid (∀ t, Pl.words10[j]? = some t → Pl.words10.take (j + 1) = Pl.words10.take j ++ [t]) := fun t ht => by
        obtain ⟨h1, h2⟩ := List.getElem?_eq_some_iff.1 ht
        rw [List.take_succ_eq_append_getElem h1, h2]
      have hln : (Pl.words10.take j).length = j := by rw [List.length_take]; show min j 15 = j; omega
      generalize hT : Pl.words10.take j = T at hown HS hln
      have HT := hide hT
      clear hT
      rcases (show j = 0 ∨ j = 1 ∨ j = 2 ∨ j = 3 ∨ j = 4 ∨ j = 5 ∨ j = 6 ∨ j = 7 ∨ j = 8 ∨ j = 9 ∨ j = 10 ∨ j = 11 ∨ j = 12 ∨ j = 13 ∨ j = 14 by omega) with rfl | rfl | rfl | rfl | rfl | rfl | rfl | rfl | rfl | rfl | rfl | rfl | rfl | rfl | rfl
      · have hx : (Instr.index 27 (.agg #[.string ⟨#[99, 100]⟩, .string ⟨#[99, 108, 111, 115, 101]⟩, .string ⟨#[100, 101, 116, 97, 99, 104]⟩, .string ⟨#[102, 108, 97, 116]⟩, .string ⟨#[103, 101, 116]⟩, .string ⟨#[108, 105, 115, 116]⟩, .string ⟨#[109, 107, 100, 105, 114]⟩, .string ⟨#[109, 111, 117, 110, 116]⟩, .string ⟨#[111, 112, 101, 110]⟩, .string ⟨#[112, 117, 116]⟩, .string ⟨#[114, 101, 97, 100]⟩, .string ⟨#[114, 109]⟩, .string ⟨#[116, 111, 117, 99, 104]⟩, .string ⟨#[117, 109, 111, 117, 110, 116]⟩, .string ⟨#[119, 114, 105, 116, 101]⟩]) (.int .i64 0)).run Tryd.prog wr = .ok (.string ⟨#[99, 100]⟩) wr := by kernel_rfl
        have h9 := hide (unhide HS ⟨#[99, 100]⟩ rfl)
        clear HS hlt
        go_wp2_with (at_builtin; refine wpList_append_own _ rfl _ _ 22 rfl w.heap.size 9 i0 (.string ⟨#[]⟩) 1 16 Tryd.underlying22 hi hz0 hz1 hz2 rfl (by decide) _ _ _ rfl (hown.alloc _) ⟨wr.heap.size, 0, none⟩ 1 1 [.string ⟨#[99, 100]⟩] rfl rfl (Mem.one_new _ _ _) (Mem.one_str _) (by unfold maxLen; omega) (by omega) (by simp; omega) ?_)
        · intro v' w2 hown' hgrow _
          have hbel' := Mem.below_append hbel (Nat.le_refl _) hown hgrow
          have hown2 : Hid (w2.ownsRow w.heap.size 9 1 v' (Pl.words10.take (0 + 1)).length ((Pl.words10.take (0 + 1)).map Value.string)) := by
            show World.ownsRow _ _ _ _ _ _ _
            rw [unhide h9]; simpa [hln] using hown'
          clear hgrow hown hbel hown' h9 hx
          go_wp2
          go_roundw
          case rel => exact ⟨0 + 1, by omega, by go_num, hown2, hbel'⟩
          case measure => simp [intOf]
      · have hx : (Instr.index 27 (.agg #[.string ⟨#[99, 100]⟩, .string ⟨#[99, 108, 111, 115, 101]⟩, .string ⟨#[100, 101, 116, 97, 99, 104]⟩, .string ⟨#[102, 108, 97, 116]⟩, .string ⟨#[103, 101, 116]⟩, .string ⟨#[108, 105, 115, 116]⟩, .string ⟨#[109, 107, 100, 105, 114]⟩, .string ⟨#[109, 111, 117, 110, 116]⟩, .string ⟨#[111, 112, 101, 110]⟩, .string ⟨#[112, 117, 116]⟩, .string ⟨#[114, 101, 97, 100]⟩, .string ⟨#[114, 109]⟩, .string ⟨#[116, 111, 117, 99, 104]⟩, .string ⟨#[117, 109, 111, 117, 110, 116]⟩, .string ⟨#[119, 114, 105, 116, 101]⟩]) (.int .i64 1)).run Tryd.prog wr = .ok (.string ⟨#[99, 108, 111, 115, 101]⟩) wr := by kernel_rfl
        have h9 := hide (unhide HS ⟨#[99, 108, 111, 115, 101]⟩ rfl)
        clear HS hlt
        go_wp2_with (at_builtin; refine wpList_append_own _ rfl _ _ 22 rfl w.heap.size 9 i0 (.string ⟨#[]⟩) 1 16 Tryd.underlying22 hi hz0 hz1 hz2 rfl (by decide) _ _ _ rfl (hown.alloc _) ⟨wr.heap.size, 0, none⟩ 1 1 [.string ⟨#[99, 108, 111, 115, 101]⟩] rfl rfl (Mem.one_new _ _ _) (Mem.one_str _) (by unfold maxLen; omega) (by omega) (by simp; omega) ?_)
        · intro v' w2 hown' hgrow _
          have hbel' := Mem.below_append hbel (Nat.le_refl _) hown hgrow
          have hown2 : Hid (w2.ownsRow w.heap.size 9 1 v' (Pl.words10.take (1 + 1)).length ((Pl.words10.take (1 + 1)).map Value.string)) := by
            show World.ownsRow _ _ _ _ _ _ _
            rw [unhide h9]; simpa [hln] using hown'
          clear hgrow hown hbel hown' h9 hx
          go_wp2
          go_roundw
          case rel => exact ⟨1 + 1, by omega, by go_num, hown2, hbel'⟩
          case measure => simp [intOf]
      · have hx : (Instr.index 27 (.agg #[.string ⟨#[99, 100]⟩, .string ⟨#[99, 108, 111, 115, 101]⟩, .string ⟨#[100, 101, 116, 97, 99, 104]⟩, .string ⟨#[102, 108, 97, 116]⟩, .string ⟨#[103, 101, 116]⟩, .string ⟨#[108, 105, 115, 116]⟩, .string ⟨#[109, 107, 100, 105, 114]⟩, .string ⟨#[109, 111, 117, 110, 116]⟩, .string ⟨#[111, 112, 101, 110]⟩, .string ⟨#[112, 117, 116]⟩, .string ⟨#[114, 101, 97, 100]⟩, .string ⟨#[114, 109]⟩, .string ⟨#[116, 111, 117, 99, 104]⟩, .string ⟨#[117, 109, 111, 117, 110, 116]⟩, .string ⟨#[119, 114, 105, 116, 101]⟩]) (.int .i64 2)).run Tryd.prog wr = .ok (.string ⟨#[100, 101, 116, 97, 99, 104]⟩) wr := by kernel_rfl
        have h9 := hide (unhide HS ⟨#[100, 101, 116, 97, 99, 104]⟩ rfl)
        clear HS hlt
        go_wp2_with (at_builtin; refine wpList_append_own _ rfl _ _ 22 rfl w.heap.size 9 i0 (.string ⟨#[]⟩) 1 16 Tryd.underlying22 hi hz0 hz1 hz2 rfl (by decide) _ _ _ rfl (hown.alloc _) ⟨wr.heap.size, 0, none⟩ 1 1 [.string ⟨#[100, 101, 116, 97, 99, 104]⟩] rfl rfl (Mem.one_new _ _ _) (Mem.one_str _) (by unfold maxLen; omega) (by omega) (by simp; omega) ?_)
        · intro v' w2 hown' hgrow _
          have hbel' := Mem.below_append hbel (Nat.le_refl _) hown hgrow
          have hown2 : Hid (w2.ownsRow w.heap.size 9 1 v' (Pl.words10.take (2 + 1)).length ((Pl.words10.take (2 + 1)).map Value.string)) := by
            show World.ownsRow _ _ _ _ _ _ _
            rw [unhide h9]; simpa [hln] using hown'
          clear hgrow hown hbel hown' h9 hx
          go_wp2
          go_roundw
          case rel => exact ⟨2 + 1, by omega, by go_num, hown2, hbel'⟩
          case measure => simp [intOf]
      · have hx : (Instr.index 27 (.agg #[.string ⟨#[99, 100]⟩, .string ⟨#[99, 108, 111, 115, 101]⟩, .string ⟨#[100, 101, 116, 97, 99, 104]⟩, .string ⟨#[102, 108, 97, 116]⟩, .string ⟨#[103, 101, 116]⟩, .string ⟨#[108, 105, 115, 116]⟩, .string ⟨#[109, 107, 100, 105, 114]⟩, .string ⟨#[109, 111, 117, 110, 116]⟩, .string ⟨#[111, 112, 101, 110]⟩, .string ⟨#[112, 117, 116]⟩, .string ⟨#[114, 101, 97, 100]⟩, .string ⟨#[114, 109]⟩, .string ⟨#[116, 111, 117, 99, 104]⟩, .string ⟨#[117, 109, 111, 117, 110, 116]⟩, .string ⟨#[119, 114, 105, 116, 101]⟩]) (.int .i64 3)).run Tryd.prog wr = .ok (.string ⟨#[102, 108, 97, 116]⟩) wr := by kernel_rfl
        have h9 := hide (unhide HS ⟨#[102, 108, 97, 116]⟩ rfl)
        clear HS hlt
        go_wp2_with (at_builtin; refine wpList_append_own _ rfl _ _ 22 rfl w.heap.size 9 i0 (.string ⟨#[]⟩) 1 16 Tryd.underlying22 hi hz0 hz1 hz2 rfl (by decide) _ _ _ rfl (hown.alloc _) ⟨wr.heap.size, 0, none⟩ 1 1 [.string ⟨#[102, 108, 97, 116]⟩] rfl rfl (Mem.one_new _ _ _) (Mem.one_str _) (by unfold maxLen; omega) (by omega) (by simp; omega) ?_)
        · intro v' w2 hown' hgrow _
          have hbel' := Mem.below_append hbel (Nat.le_refl _) hown hgrow
          have hown2 : Hid (w2.ownsRow w.heap.size 9 1 v' (Pl.words10.take (3 + 1)).length ((Pl.words10.take (3 + 1)).map Value.string)) := by
            show World.ownsRow _ _ _ _ _ _ _
            rw [unhide h9]; simpa [hln] using hown'
          clear hgrow hown hbel hown' h9 hx
          go_wp2
          go_roundw
          case rel => exact ⟨3 + 1, by omega, by go_num, hown2, hbel'⟩
          case measure => simp [intOf]
      · have hx : (Instr.index 27 (.agg #[.string ⟨#[99, 100]⟩, .string ⟨#[99, 108, 111, 115, 101]⟩, .string ⟨#[100, 101, 116, 97, 99, 104]⟩, .string ⟨#[102, 108, 97, 116]⟩, .string ⟨#[103, 101, 116]⟩, .string ⟨#[108, 105, 115, 116]⟩, .string ⟨#[109, 107, 100, 105, 114]⟩, .string ⟨#[109, 111, 117, 110, 116]⟩, .string ⟨#[111, 112, 101, 110]⟩, .string ⟨#[112, 117, 116]⟩, .string ⟨#[114, 101, 97, 100]⟩, .string ⟨#[114, 109]⟩, .string ⟨#[116, 111, 117, 99, 104]⟩, .string ⟨#[117, 109, 111, 117, 110, 116]⟩, .string ⟨#[119, 114, 105, 116, 101]⟩]) (.int .i64 4)).run Tryd.prog wr = .ok (.string ⟨#[103, 101, 116]⟩) wr := by kernel_rfl
        have h9 := hide (unhide HS ⟨#[103, 101, 116]⟩ rfl)
        clear HS hlt
        go_wp2_with (at_builtin; refine wpList_append_own _ rfl _ _ 22 rfl w.heap.size 9 i0 (.string ⟨#[]⟩) 1 16 Tryd.underlying22 hi hz0 hz1 hz2 rfl (by decide) _ _ _ rfl (hown.alloc _) ⟨wr.heap.size, 0, none⟩ 1 1 [.string ⟨#[103, 101, 116]⟩] rfl rfl (Mem.one_new _ _ _) (Mem.one_str _) (by unfold maxLen; omega) (by omega) (by simp; omega) ?_)
        · intro v' w2 hown' hgrow _
          have hbel' := Mem.below_append hbel (Nat.le_refl _) hown hgrow
          have hown2 : Hid (w2.ownsRow w.heap.size 9 1 v' (Pl.words10.take (4 + 1)).length ((Pl.words10.take (4 + 1)).map Value.string)) := by
            show World.ownsRow _ _ _ _ _ _ _
            rw [unhide h9]; simpa [hln] using hown'
          clear hgrow hown hbel hown' h9 hx
          go_wp2
          go_roundw
          case rel => exact ⟨4 + 1, by omega, by go_num, hown2, hbel'⟩
          case measure => simp [intOf]
      · have hx : (Instr.index 27 (.agg #[.string ⟨#[99, 100]⟩, .string ⟨#[99, 108, 111, 115, 101]⟩, .string ⟨#[100, 101, 116, 97, 99, 104]⟩, .string ⟨#[102, 108, 97, 116]⟩, .string ⟨#[103, 101, 116]⟩, .string ⟨#[108, 105, 115, 116]⟩, .string ⟨#[109, 107, 100, 105, 114]⟩, .string ⟨#[109, 111, 117, 110, 116]⟩, .string ⟨#[111, 112, 101, 110]⟩, .string ⟨#[112, 117, 116]⟩, .string ⟨#[114, 101, 97, 100]⟩, .string ⟨#[114, 109]⟩, .string ⟨#[116, 111, 117, 99, 104]⟩, .string ⟨#[117, 109, 111, 117, 110, 116]⟩, .string ⟨#[119, 114, 105, 116, 101]⟩]) (.int .i64 5)).run Tryd.prog wr = .ok (.string ⟨#[108, 105, 115, 116]⟩) wr := by kernel_rfl
        have h9 := hide (unhide HS ⟨#[108, 105, 115, 116]⟩ rfl)
        clear HS hlt
        go_wp2_with (at_builtin; refine wpList_append_own _ rfl _ _ 22 rfl w.heap.size 9 i0 (.string ⟨#[]⟩) 1 16 Tryd.underlying22 hi hz0 hz1 hz2 rfl (by decide) _ _ _ rfl (hown.alloc _) ⟨wr.heap.size, 0, none⟩ 1 1 [.string ⟨#[108, 105, 115, 116]⟩] rfl rfl (Mem.one_new _ _ _) (Mem.one_str _) (by unfold maxLen; omega) (by omega) (by simp; omega) ?_)
        · intro v' w2 hown' hgrow _
          have hbel' := Mem.below_append hbel (Nat.le_refl _) hown hgrow
          have hown2 : Hid (w2.ownsRow w.heap.size 9 1 v' (Pl.words10.take (5 + 1)).length ((Pl.words10.take (5 + 1)).map Value.string)) := by
            show World.ownsRow _ _ _ _ _ _ _
            rw [unhide h9]; simpa [hln] using hown'
          clear hgrow hown hbel hown' h9 hx
          go_wp2
          go_roundw
          case rel => exact ⟨5 + 1, by omega, by go_num, hown2, hbel'⟩
          case measure => simp [intOf]
      · have hx : (Instr.index 27 (.agg #[.string ⟨#[99, 100]⟩, .string ⟨#[99, 108, 111, 115, 101]⟩, .string ⟨#[100, 101, 116, 97, 99, 104]⟩, .string ⟨#[102, 108, 97, 116]⟩, .string ⟨#[103, 101, 116]⟩, .string ⟨#[108, 105, 115, 116]⟩, .string ⟨#[109, 107, 100, 105, 114]⟩, .string ⟨#[109, 111, 117, 110, 116]⟩, .string ⟨#[111, 112, 101, 110]⟩, .string ⟨#[112, 117, 116]⟩, .string ⟨#[114, 101, 97, 100]⟩, .string ⟨#[114, 109]⟩, .string ⟨#[116, 111, 117, 99, 104]⟩, .string ⟨#[117, 109, 111, 117, 110, 116]⟩, .string ⟨#[119, 114, 105, 116, 101]⟩]) (.int .i64 6)).run Tryd.prog wr = .ok (.string ⟨#[109, 107, 100, 105, 114]⟩) wr := by kernel_rfl
        have h9 := hide (unhide HS ⟨#[109, 107, 100, 105, 114]⟩ rfl)
        clear HS hlt
        go_wp2_with (at_builtin; refine wpList_append_own _ rfl _ _ 22 rfl w.heap.size 9 i0 (.string ⟨#[]⟩) 1 16 Tryd.underlying22 hi hz0 hz1 hz2 rfl (by decide) _ _ _ rfl (hown.alloc _) ⟨wr.heap.size, 0, none⟩ 1 1 [.string ⟨#[109, 107, 100, 105, 114]⟩] rfl rfl (Mem.one_new _ _ _) (Mem.one_str _) (by unfold maxLen; omega) (by omega) (by simp; omega) ?_)
        · intro v' w2 hown' hgrow _
          have hbel' := Mem.below_append hbel (Nat.le_refl _) hown hgrow
          have hown2 : Hid (w2.ownsRow w.heap.size 9 1 v' (Pl.words10.take (6 + 1)).length ((Pl.words10.take (6 + 1)).map Value.string)) := by
            show World.ownsRow _ _ _ _ _ _ _
            rw [unhide h9]; simpa [hln] using hown'
          clear hgrow hown hbel hown' h9 hx
          go_wp2
          go_roundw
          case rel => exact ⟨6 + 1, by omega, by go_num, hown2, hbel'⟩
          case measure => simp [intOf]
      · have hx : (Instr.index 27 (.agg #[.string ⟨#[99, 100]⟩, .string ⟨#[99, 108, 111, 115, 101]⟩, .string ⟨#[100, 101, 116, 97, 99, 104]⟩, .string ⟨#[102, 108, 97, 116]⟩, .string ⟨#[103, 101, 116]⟩, .string ⟨#[108, 105, 115, 116]⟩, .string ⟨#[109, 107, 100, 105, 114]⟩, .string ⟨#[109, 111, 117, 110, 116]⟩, .string ⟨#[111, 112, 101, 110]⟩, .string ⟨#[112, 117, 116]⟩, .string ⟨#[114, 101, 97, 100]⟩, .string ⟨#[114, 109]⟩, .string ⟨#[116, 111, 117, 99, 104]⟩, .string ⟨#[117, 109, 111, 117, 110, 116]⟩, .string ⟨#[119, 114, 105, 116, 101]⟩]) (.int .i64 7)).run Tryd.prog wr = .ok (.string ⟨#[109, 111, 117, 110, 116]⟩) wr := by kernel_rfl
        have h9 := hide (unhide HS ⟨#[109, 111, 117, 110, 116]⟩ rfl)
        clear HS hlt
        go_wp2_with (at_builtin; refine wpList_append_own _ rfl _ _ 22 rfl w.heap.size 9 i0 (.string ⟨#[]⟩) 1 16 Tryd.underlying22 hi hz0 hz1 hz2 rfl (by decide) _ _ _ rfl (hown.alloc _) ⟨wr.heap.size, 0, none⟩ 1 1 [.string ⟨#[109, 111, 117, 110, 116]⟩] rfl rfl (Mem.one_new _ _ _) (Mem.one_str _) (by unfold maxLen; omega) (by omega) (by simp; omega) ?_)
        · intro v' w2 hown' hgrow _
          have hbel' := Mem.below_append hbel (Nat.le_refl _) hown hgrow
          have hown2 : Hid (w2.ownsRow w.heap.size 9 1 v' (Pl.words10.take (7 + 1)).length ((Pl.words10.take (7 + 1)).map Value.string)) := by
            show World.ownsRow _ _ _ _ _ _ _
            rw [unhide h9]; simpa [hln] using hown'
          clear hgrow hown hbel hown' h9 hx
          go_wp2
          go_roundw
          case rel => exact ⟨7 + 1, by omega, by go_num, hown2, hbel'⟩
          case measure => simp [intOf]
      · have hx : (Instr.index 27 (.agg #[.string ⟨#[99, 100]⟩, .string ⟨#[99, 108, 111, 115, 101]⟩, .string ⟨#[100, 101, 116, 97, 99, 104]⟩, .string ⟨#[102, 108, 97, 116]⟩, .string ⟨#[103, 101, 116]⟩, .string ⟨#[108, 105, 115, 116]⟩, .string ⟨#[109, 107, 100, 105, 114]⟩, .string ⟨#[109, 111, 117, 110, 116]⟩, .string ⟨#[111, 112, 101, 110]⟩, .string ⟨#[112, 117, 116]⟩, .string ⟨#[114, 101, 97, 100]⟩, .string ⟨#[114, 109]⟩, .string ⟨#[116, 111, 117, 99, 104]⟩, .string ⟨#[117, 109, 111, 117, 110, 116]⟩, .string ⟨#[119, 114, 105, 116, 101]⟩]) (.int .i64 8)).run Tryd.prog wr = .ok (.string ⟨#[111, 112, 101, 110]⟩) wr := by kernel_rfl
        have h9 := hide (unhide HS ⟨#[111, 112, 101, 110]⟩ rfl)
        clear HS hlt
        go_wp2_with (at_builtin; refine wpList_append_own _ rfl _ _ 22 rfl w.heap.size 9 i0 (.string ⟨#[]⟩) 1 16 Tryd.underlying22 hi hz0 hz1 hz2 rfl (by decide) _ _ _ rfl (hown.alloc _) ⟨wr.heap.size, 0, none⟩ 1 1 [.string ⟨#[111, 112, 101, 110]⟩] rfl rfl (Mem.one_new _ _ _) (Mem.one_str _) (by unfold maxLen; omega) (by omega) (by simp; omega) ?_)
        · intro v' w2 hown' hgrow _
          have hbel' := Mem.below_append hbel (Nat.le_refl _) hown hgrow
          have hown2 : Hid (w2.ownsRow w.heap.size 9 1 v' (Pl.words10.take (8 + 1)).length ((Pl.words10.take (8 + 1)).map Value.string)) := by
            show World.ownsRow _ _ _ _ _ _ _
            rw [unhide h9]; simpa [hln] using hown'
          clear hgrow hown hbel hown' h9 hx
          go_wp2
          go_roundw
          case rel => exact ⟨8 + 1, by omega, by go_num, hown2, hbel'⟩
          case measure => simp [intOf]
      · have hx : (Instr.index 27 (.agg #[.string ⟨#[99, 100]⟩, .string ⟨#[99, 108, 111, 115, 101]⟩, .string ⟨#[100, 101, 116, 97, 99, 104]⟩, .string ⟨#[102, 108, 97, 116]⟩, .string ⟨#[103, 101, 116]⟩, .string ⟨#[108, 105, 115, 116]⟩, .string ⟨#[109, 107, 100, 105, 114]⟩, .string ⟨#[109, 111, 117, 110, 116]⟩, .string ⟨#[111, 112, 101, 110]⟩, .string ⟨#[112, 117, 116]⟩, .string ⟨#[114, 101, 97, 100]⟩, .string ⟨#[114, 109]⟩, .string ⟨#[116, 111, 117, 99, 104]⟩, .string ⟨#[117, 109, 111, 117, 110, 116]⟩, .string ⟨#[119, 114, 105, 116, 101]⟩]) (.int .i64 9)).run Tryd.prog wr = .ok (.string ⟨#[112, 117, 116]⟩) wr := by kernel_rfl
        have h9 := hide (unhide HS ⟨#[112, 117, 116]⟩ rfl)
        clear HS hlt
        go_wp2_with (at_builtin; refine wpList_append_own _ rfl _ _ 22 rfl w.heap.size 9 i0 (.string ⟨#[]⟩) 1 16 Tryd.underlying22 hi hz0 hz1 hz2 rfl (by decide) _ _ _ rfl (hown.alloc _) ⟨wr.heap.size, 0, none⟩ 1 1 [.string ⟨#[112, 117, 116]⟩] rfl rfl (Mem.one_new _ _ _) (Mem.one_str _) (by unfold maxLen; omega) (by omega) (by simp; omega) ?_)
        · intro v' w2 hown' hgrow _
          have hbel' := Mem.below_append hbel (Nat.le_refl _) hown hgrow
          have hown2 : Hid (w2.ownsRow w.heap.size 9 1 v' (Pl.words10.take (9 + 1)).length ((Pl.words10.take (9 + 1)).map Value.string)) := by
            show World.ownsRow _ _ _ _ _ _ _
            rw [unhide h9]; simpa [hln] using hown'
          clear hgrow hown hbel hown' h9 hx
          go_wp2
          go_roundw
          case rel => exact ⟨9 + 1, by omega, by go_num, hown2, hbel'⟩
          case measure => simp [intOf]
      · have hx : (Instr.index 27 (.agg #[.string ⟨#[99, 100]⟩, .string ⟨#[99, 108, 111, 115, 101]⟩, .string ⟨#[100, 101, 116, 97, 99, 104]⟩, .string ⟨#[102, 108, 97, 116]⟩, .string ⟨#[103, 101, 116]⟩, .string ⟨#[108, 105, 115, 116]⟩, .string ⟨#[109, 107, 100, 105, 114]⟩, .string ⟨#[109, 111, 117, 110, 116]⟩, .string ⟨#[111, 112, 101, 110]⟩, .string ⟨#[112, 117, 116]⟩, .string ⟨#[114, 101, 97, 100]⟩, .string ⟨#[114, 109]⟩, .string ⟨#[116, 111, 117, 99, 104]⟩, .string ⟨#[117, 109, 111, 117, 110, 116]⟩, .string ⟨#[119, 114, 105, 116, 101]⟩]) (.int .i64 10)).run Tryd.prog wr = .ok (.string ⟨#[114, 101, 97, 100]⟩) wr := by kernel_rfl
        have h9 := hide (unhide HS ⟨#[114, 101, 97, 100]⟩ rfl)
        clear HS hlt
        go_wp2_with (at_builtin; refine wpList_append_own _ rfl _ _ 22 rfl w.heap.size 9 i0 (.string ⟨#[]⟩) 1 16 Tryd.underlying22 hi hz0 hz1 hz2 rfl (by decide) _ _ _ rfl (hown.alloc _) ⟨wr.heap.size, 0, none⟩ 1 1 [.string ⟨#[114, 101, 97, 100]⟩] rfl rfl (Mem.one_new _ _ _) (Mem.one_str _) (by unfold maxLen; omega) (by omega) (by simp; omega) ?_)
        · intro v' w2 hown' hgrow _
          have hbel' := Mem.below_append hbel (Nat.le_refl _) hown hgrow
          have hown2 : Hid (w2.ownsRow w.heap.size 9 1 v' (Pl.words10.take (10 + 1)).length ((Pl.words10.take (10 + 1)).map Value.string)) := by
            show World.ownsRow _ _ _ _ _ _ _
            rw [unhide h9]; simpa [hln] using hown'
          clear hgrow hown hbel hown' h9 hx
          go_wp2
          go_roundw
          case rel => exact ⟨10 + 1, by omega, by go_num, hown2, hbel'⟩
          case measure => simp [intOf]
      · have hx : (Instr.index 27 (.agg #[.string ⟨#[99, 100]⟩, .string ⟨#[99, 108, 111, 115, 101]⟩, .string ⟨#[100, 101, 116, 97, 99, 104]⟩, .string ⟨#[102, 108, 97, 116]⟩, .string ⟨#[103, 101, 116]⟩, .string ⟨#[108, 105, 115, 116]⟩, .string ⟨#[109, 107, 100, 105, 114]⟩, .string ⟨#[109, 111, 117, 110, 116]⟩, .string ⟨#[111, 112, 101, 110]⟩, .string ⟨#[112, 117, 116]⟩, .string ⟨#[114, 101, 97, 100]⟩, .string ⟨#[114, 109]⟩, .string ⟨#[116, 111, 117, 99, 104]⟩, .string ⟨#[117, 109, 111, 117, 110, 116]⟩, .string ⟨#[119, 114, 105, 116, 101]⟩]) (.int .i64 11)).run Tryd.prog wr = .ok (.string ⟨#[114, 109]⟩) wr := by kernel_rfl
        have h9 := hide (unhide HS ⟨#[114, 109]⟩ rfl)
        clear HS hlt
        go_wp2_with (at_builtin; refine wpList_append_own _ rfl _ _ 22 rfl w.heap.size 9 i0 (.string ⟨#[]⟩) 1 16 Tryd.underlying22 hi hz0 hz1 hz2 rfl (by decide) _ _ _ rfl (hown.alloc _) ⟨wr.heap.size, 0, none⟩ 1 1 [.string ⟨#[114, 109]⟩] rfl rfl (Mem.one_new _ _ _) (Mem.one_str _) (by unfold maxLen; omega) (by omega) (by simp; omega) ?_)
        · intro v' w2 hown' hgrow _
          have hbel' := Mem.below_append hbel (Nat.le_refl _) hown hgrow
          have hown2 : Hid (w2.ownsRow w.heap.size 9 1 v' (Pl.words10.take (11 + 1)).length ((Pl.words10.take (11 + 1)).map Value.string)) := by
            show World.ownsRow _ _ _ _ _ _ _
            rw [unhide h9]; simpa [hln] using hown'
          clear hgrow hown hbel hown' h9 hx
          go_wp2
          go_roundw
          case rel => exact ⟨11 + 1, by omega, by go_num, hown2, hbel'⟩
          case measure => simp [intOf]
      · have hx : (Instr.index 27 (.agg #[.string ⟨#[99, 100]⟩, .string ⟨#[99, 108, 111, 115, 101]⟩, .string ⟨#[100, 101, 116, 97, 99, 104]⟩, .string ⟨#[102, 108, 97, 116]⟩, .string ⟨#[103, 101, 116]⟩, .string ⟨#[108, 105, 115, 116]⟩, .string ⟨#[109, 107, 100, 105, 114]⟩, .string ⟨#[109, 111, 117, 110, 116]⟩, .string ⟨#[111, 112, 101, 110]⟩, .string ⟨#[112, 117, 116]⟩, .string ⟨#[114, 101, 97, 100]⟩, .string ⟨#[114, 109]⟩, .string ⟨#[116, 111, 117, 99, 104]⟩, .string ⟨#[117, 109, 111, 117, 110, 116]⟩, .string ⟨#[119, 114, 105, 116, 101]⟩]) (.int .i64 12)).run Tryd.prog wr = .ok (.string ⟨#[116, 111, 117, 99, 104]⟩) wr := by kernel_rfl
        have h9 := hide (unhide HS ⟨#[116, 111, 117, 99, 104]⟩ rfl)
        clear HS hlt
        go_wp2_with (at_builtin; refine wpList_append_own _ rfl _ _ 22 rfl w.heap.size 9 i0 (.string ⟨#[]⟩) 1 16 Tryd.underlying22 hi hz0 hz1 hz2 rfl (by decide) _ _ _ rfl (hown.alloc _) ⟨wr.heap.size, 0, none⟩ 1 1 [.string ⟨#[116, 111, 117, 99, 104]⟩] rfl rfl (Mem.one_new _ _ _) (Mem.one_str _) (by unfold maxLen; omega) (by omega) (by simp; omega) ?_)
        · intro v' w2 hown' hgrow _
          have hbel' := Mem.below_append hbel (Nat.le_refl _) hown hgrow
          have hown2 : Hid (w2.ownsRow w.heap.size 9 1 v' (Pl.words10.take (12 + 1)).length ((Pl.words10.take (12 + 1)).map Value.string)) := by
            show World.ownsRow _ _ _ _ _ _ _
            rw [unhide h9]; simpa [hln] using hown'
          clear hgrow hown hbel hown' h9 hx
          go_wp2
          go_roundw
          case rel => exact ⟨12 + 1, by omega, by go_num, hown2, hbel'⟩
          case measure => simp [intOf]
      · have hx : (Instr.index 27 (.agg #[.string ⟨#[99, 100]⟩, .string ⟨#[99, 108, 111, 115, 101]⟩, .string ⟨#[100, 101, 116, 97, 99, 104]⟩, .string ⟨#[102, 108, 97, 116]⟩, .string ⟨#[103, 101, 116]⟩, .string ⟨#[108, 105, 115, 116]⟩, .string ⟨#[109, 107, 100, 105, 114]⟩, .string ⟨#[109, 111, 117, 110, 116]⟩, .string ⟨#[111, 112, 101, 110]⟩, .string ⟨#[112, 117, 116]⟩, .string ⟨#[114, 101, 97, 100]⟩, .string ⟨#[114, 109]⟩, .string ⟨#[116, 111, 117, 99, 104]⟩, .string ⟨#[117, 109, 111, 117, 110, 116]⟩, .string ⟨#[119, 114, 105, 116, 101]⟩]) (.int .i64 13)).run Tryd.prog wr = .ok (.string ⟨#[117, 109, 111, 117, 110, 116]⟩) wr := by kernel_rfl
        have h9 := hide (unhide HS ⟨#[117, 109, 111, 117, 110, 116]⟩ rfl)
        clear HS hlt
        go_wp2_with (at_builtin; refine wpList_append_own _ rfl _ _ 22 rfl w.heap.size 9 i0 (.string ⟨#[]⟩) 1 16 Tryd.underlying22 hi hz0 hz1 hz2 rfl (by decide) _ _ _ rfl (hown.alloc _) ⟨wr.heap.size, 0, none⟩ 1 1 [.string ⟨#[117, 109, 111, 117, 110, 116]⟩] rfl rfl (Mem.one_new _ _ _) (Mem.one_str _) (by unfold maxLen; omega) (by omega) (by simp; omega) ?_)
        · intro v' w2 hown' hgrow _
          have hbel' := Mem.below_append hbel (Nat.le_refl _) hown hgrow
          have hown2 : Hid (w2.ownsRow w.heap.size 9 1 v' (Pl.words10.take (13 + 1)).length ((Pl.words10.take (13 + 1)).map Value.string)) := by
            show World.ownsRow _ _ _ _ _ _ _
            rw [unhide h9]; simpa [hln] using hown'
          clear hgrow hown hbel hown' h9 hx
          go_wp2
          go_roundw
          case rel => exact ⟨13 + 1, by omega, by go_num, hown2, hbel'⟩
          case measure => simp [intOf]
      · have hx : (Instr.index 27 (.agg #[.string ⟨#[99, 100]⟩, .string ⟨#[99, 108, 111, 115, 101]⟩, .string ⟨#[100, 101, 116, 97, 99, 104]⟩, .string ⟨#[102, 108, 97, 116]⟩, .string ⟨#[103, 101, 116]⟩, .string ⟨#[108, 105, 115, 116]⟩, .string ⟨#[109, 107, 100, 105, 114]⟩, .string ⟨#[109, 111, 117, 110, 116]⟩, .string ⟨#[111, 112, 101, 110]⟩, .string ⟨#[112, 117, 116]⟩, .string ⟨#[114, 101, 97, 100]⟩, .string ⟨#[114, 109]⟩, .string ⟨#[116, 111, 117, 99, 104]⟩, .string ⟨#[117, 109, 111, 117, 110, 116]⟩, .string ⟨#[119, 114, 105, 116, 101]⟩]) (.int .i64 14)).run Tryd.prog wr = .ok (.string ⟨#[119, 114, 105, 116, 101]⟩) wr := by kernel_rfl
        have h9 := hide (unhide HS ⟨#[119, 114, 105, 116, 101]⟩ rfl)
        clear HS hlt
        go_wp2_with (at_builtin; refine wpList_append_own _ rfl _ _ 22 rfl w.heap.size 9 i0 (.string ⟨#[]⟩) 1 16 Tryd.underlying22 hi hz0 hz1 hz2 rfl (by decide) _ _ _ rfl (hown.alloc _) ⟨wr.heap.size, 0, none⟩ 1 1 [.string ⟨#[119, 114, 105, 116, 101]⟩] rfl rfl (Mem.one_new _ _ _) (Mem.one_str _) (by unfold maxLen; omega) (by omega) (by simp; omega) ?_)
        · intro v' w2 hown' hgrow _
          have hbel' := Mem.below_append hbel (Nat.le_refl _) hown hgrow
          have hown2 : Hid (w2.ownsRow w.heap.size 9 1 v' (Pl.words10.take (14 + 1)).length ((Pl.words10.take (14 + 1)).map Value.string)) := by
            show World.ownsRow _ _ _ _ _ _ _
            rw [unhide h9]; simpa [hln] using hown'
          clear hgrow hown hbel hown' h9 hx
          go_wp2
          go_roundw
          case rel => exact ⟨14 + 1, by omega, by go_num, hown2, hbel'⟩
          case measure => simp [intOf]
    · obtain rfl : j = 15 := by omega
      have hown15 : wr.ownsRow w.heap.size 9 1 u1 15 (Pl.words10.map Value.string) := hown
      obtain ⟨g, cap, rfl⟩ : ∃ g cap, u1 = .slice (some ⟨g, 0, none⟩) 15 cap := by
        rcases hown15.2 with ⟨_, h0⟩ | ⟨g, cap, cur, hv, -⟩
        · cases h0
        · exact ⟨g, cap, hv⟩
      clear hown
      go_wp2
      go_ret
      exact ⟨⟨g, cap, rfl, hown15⟩, hbel⟩
end WDeskW
end Go.Proofs.YtgdfadibdioedaaDoor
