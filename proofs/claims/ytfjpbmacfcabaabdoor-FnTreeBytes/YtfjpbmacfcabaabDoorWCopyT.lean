/- The walk of the specification's l03Copy: a tree's nodes in a row of its own. -/
import Derived.Test.YtfjpbmacfcabaabDoorPartE
namespace Go.Proofs.YtfjpbmacfcabaabDoor
open Go.RowKit
namespace WCopyT
set_option linter.unusedSimpArgs false in
set_option maxRecDepth 100000 in
set_option maxHeartbeats 1000000 in
theorem copy_any (a : Option Addr) (cap : Nat) (L : List Pl.Nd) (w : World) (hl : L.length ≤ 1000) (hA : WPutG.okA w a cap L) (hv : Mem.isNodes w a L) :
    Calls Tryd.prog 28 #[.agg #[.slice a L.length cap]] w fun e w' => ∃ v, e = .returned (.agg #[v]) ∧ Mem.ownN w' w.heap.size v L ∧ Below w.heap.size w w' := by
  obtain ⟨i0, hi, hz0, hz1, hz2⟩ := info_parts WPutT.infoN
  have b2 : Below w.heap.size w (((w.alloc (.cells #[.slice a L.length cap] 25)).alloc (.cells #[.slice none 0 0] 25)).alloc (.cells #[] 44)) := (((Below.refl _ _).alloc (Nat.le_refl _) _).alloc (by simp) _).alloc (by simp; omega) _
  have B0 := ((Mem.Blk.new w #[.slice a L.length cap] 25).alloc (.cells #[.slice none 0 0] 25)).alloc (.cells #[] 44)
  have B1 : Mem.Blk (((w.alloc (.cells #[.slice a L.length cap] 25)).alloc (.cells #[.slice none 0 0] 25)).alloc (.cells #[] 44)) (w.heap.size + 1) #[.slice none 0 0] 25 := (show Mem.Blk ((w.alloc (.cells #[.slice a L.length cap] 25)).alloc (.cells #[.slice none 0 0] 25)) (w.heap.size + 1) #[.slice none 0 0] 25 from Mem.new_two _ _ _).alloc _
  have OA : Hid (Mem.ownN (((w.alloc (.cells #[.slice a L.length cap] 25)).alloc (.cells #[.slice none 0 0] 25)).alloc (.cells #[] 44)) (w.heap.size + 2) (.slice (some ⟨w.heap.size + 2, 0, none⟩) 0 0) []) := by
    refine ⟨rfl, .inr ⟨w.heap.size + 2, 0, #[], rfl, Nat.le_refl _, ?_, Nat.le_refl _, Nat.zero_le _, rfl, rfl⟩⟩
    have h := heap_alloc_new ((w.alloc (.cells #[.slice a L.length cap] 25)).alloc (.cells #[.slice none 0 0] 25)) (.cells #[] 44)
    rw [show ((w.alloc (.cells #[.slice a L.length cap] 25)).alloc (.cells #[.slice none 0 0] 25)).heap.size = w.heap.size + 2 by simp] at h
    exact h
  have NV := hide (Mem.nodes_call hv b2)
  have x0 := B0.cell 0
  simp only [List.getElem?_toArray, List.getElem?_cons_zero] at x0
  clear hv
  rcases hA with ⟨rfl, rfl, rfl⟩ | ⟨g, o, rfl, hg, hc⟩
  · simp only [List.length_nil] at OA B1 b2 x0 ⊢
    have z0 := B1.cell 0
    have zf := B1.fr 0
    simp only [List.getElem?_toArray, List.getElem?_cons_zero] at z0
    have BB := (B1.put 0 (.slice (some ⟨w.heap.size + 2, 0, none⟩) 0 0)).cell 0
    go_enter Tryd.func28, Tryd.ntmps28
    go_wp2_with (at_builtin; refine wpList_append_own_none rfl _ _ 23 rfl (w.heap.size + 2) 44 i0 5 Tryd.underlying23 hi _ _ _ rfl (unhide OA) rfl ?_)
    refine bodyPost_ret (v := .agg #[.slice (some ⟨w.heap.size + 1 + 1, 0, none⟩) 0 0]) (by simp [results, Tryd.results28, go_sem, z0]) rfl ⟨_, rfl, ?_, ?_⟩
    · refine ⟨rfl, .inr ⟨w.heap.size + 1 + 1, 0, #[], rfl, by omega, ?_, Nat.le_refl _, Nat.zero_le _, rfl, rfl⟩⟩
      have h := heap_alloc_new ((w.alloc (.cells #[.slice none 0 0] 25)).alloc (.cells #[.slice (some ⟨w.heap.size + 1 + 1, 0, none⟩) 0 0] 25)) (.cells #[] 44)
      rw [show ((w.alloc (.cells #[.slice none 0 0] 25)).alloc (.cells #[.slice (some ⟨w.heap.size + 1 + 1, 0, none⟩) 0 0] 25)).heap.size = w.heap.size + 1 + 1 by simp] at h
      exact h
    · exact (((Below.refl _ _).alloc (Nat.le_refl _) _).alloc (by simp) _).alloc (by simp; omega) _
  · go_enter Tryd.func28, Tryd.ntmps28
    go_wp2_with (at_builtin; refine wpList_append_own _ rfl _ _ 23 rfl (w.heap.size + 2) 44 i0 _ 5 56 Tryd.underlying23 hi hz0 hz1 hz2 rfl (by decide) _ _ _ rfl (unhide OA) ⟨g, o, none⟩ L.length cap (Pl.cellsN L) rfl (by rw [Pl.cellsN_len]) (WPutT.cells_at (unhide NV)) (WPutT.cells_one _) (by rw [List.length_nil, Nat.zero_add]; unfold maxLen; omega) (by rw [List.length_nil, Nat.zero_add]; omega) (by simp) ?_)
    intro v1 wA ownA growA _
    have OB := hide (WPutT.ownN_app (A := []) (M := L) (m := L.length) (by rw [List.length_nil, Nat.zero_add]; exact ownA) rfl)
    rw [List.nil_append] at OB
    have hg1 : ∀ q, (Value.slice (some ⟨w.heap.size + 2, 0, none⟩) 0 0).ownBlock = some q → q = w.heap.size + 2 := fun q hq => (Option.some.inj hq).symm
    have B1 := B1.grown growA (fun e => by have := hg1 _ e.symm; omega)
    have b3 := b2.grown growA b2.size (fun q hq => by have := hg1 q hq; omega)
    obtain ⟨a3, c3, hv3⟩ := Mem.own_shape (unhide OB)
    subst hv3
    have z0 := B1.cell 0
    have zf := B1.fr 0
    simp only [List.getElem?_toArray, List.getElem?_cons_zero] at z0
    clear ownA growA hg1 OA NV x0 B0 b2
    go_wp2
    refine bodyPost_ret (v := .agg #[.slice a3 L.length c3]) (by simp [results, Tryd.results28, go_sem, z0]) rfl ⟨_, rfl, ?_, ?_⟩
    · exact Mem.ownN_mono (Mem.ownN_set (unhide OB) _ _ (by show w.heap.size + 1 < w.heap.size + 2; omega)) (by omega)
    · exact b3.setCell (by show w.heap.size ≤ w.heap.size + 1; omega) _
end WCopyT
end Go.Proofs.YtfjpbmacfcabaabDoor
