/- The walk of the specification's l03Copy over a row that is there. -/
import Derived.Test.YtnmdmhokdcmhcaaDoorMemPutT
import Derived.Test.YtnmdmhokdcmhcaaDoorWIll3
namespace Go.Proofs.YtnmdmhokdcmhcaaDoor
open Go.RowKit
namespace WCopyG
set_option linter.unusedSimpArgs false in
set_option maxRecDepth 100000 in
set_option maxHeartbeats 1000000 in
theorem copy_any (g o cap : Nat) (L : List Pl.Nd) (w : World) (hl : L.length ≤ 1000) (hv : Mem.isNodes w (some ⟨g, o, none⟩) L) :
    Calls Tryd.prog 68 #[.agg #[.slice (some ⟨g, o, none⟩) L.length cap]] w fun e w' => ∃ v, e = .returned (.agg #[v]) ∧ Mem.ownN w' w.heap.size v L ∧ Below w.heap.size w w' := by
  obtain ⟨i0, hi, hz0, hz1, hz2⟩ := info_parts WPutT.infoN
  have b2 : Below w.heap.size w (((w.alloc (.cells #[.slice (some ⟨g, o, none⟩) L.length cap] 30)).alloc (.cells #[.slice none 0 0] 30)).alloc (.cells #[] 43)) := (((Below.refl _ _).alloc (Nat.le_refl _) _).alloc (by simp) _).alloc (by simp; omega) _
  have B0 := ((Mem.Blk.new w #[.slice (some ⟨g, o, none⟩) L.length cap] 30).alloc (.cells #[.slice none 0 0] 30)).alloc (.cells #[] 43)
  have B1 : Mem.Blk (((w.alloc (.cells #[.slice (some ⟨g, o, none⟩) L.length cap] 30)).alloc (.cells #[.slice none 0 0] 30)).alloc (.cells #[] 43)) (w.heap.size + 1) #[.slice none 0 0] 30 := (show Mem.Blk ((w.alloc (.cells #[.slice (some ⟨g, o, none⟩) L.length cap] 30)).alloc (.cells #[.slice none 0 0] 30)) (w.heap.size + 1) #[.slice none 0 0] 30 from Mem.new_two _ _ _).alloc _
  have OA : Hid (Mem.ownN (((w.alloc (.cells #[.slice (some ⟨g, o, none⟩) L.length cap] 30)).alloc (.cells #[.slice none 0 0] 30)).alloc (.cells #[] 43)) (w.heap.size + 2) (.slice (some ⟨w.heap.size + 2, 0, none⟩) 0 0) []) := by
    refine ⟨rfl, .inr ⟨w.heap.size + 2, 0, #[], rfl, Nat.le_refl _, ?_, Nat.le_refl _, Nat.zero_le _, rfl, rfl⟩⟩
    have h := heap_alloc_new ((w.alloc (.cells #[.slice (some ⟨g, o, none⟩) L.length cap] 30)).alloc (.cells #[.slice none 0 0] 30)) (.cells #[] 43)
    rw [show ((w.alloc (.cells #[.slice (some ⟨g, o, none⟩) L.length cap] 30)).alloc (.cells #[.slice none 0 0] 30)).heap.size = w.heap.size + 2 by simp] at h
    exact h
  have NV := hide (Mem.nodes_call hv b2)
  have x0 := B0.cell 0
  simp only [List.getElem?_toArray, List.getElem?_cons_zero] at x0
  clear hv
  go_enter Tryd.func68, Tryd.ntmps68
  go_wp2_with (at_builtin; refine wpList_append_own _ rfl _ _ 28 rfl (w.heap.size + 2) 43 i0 _ 5 56 Tryd.underlying28 hi hz0 hz1 hz2 rfl (by decide) _ _ _ rfl (unhide OA) ⟨g, o, none⟩ L.length cap (Pl.cellsN L) rfl (by rw [Pl.cellsN_len]) (WPutT.cells_at (unhide NV)) (WPutT.cells_one _) (by rw [List.length_nil, Nat.zero_add]; unfold maxLen; omega) (by rw [List.length_nil, Nat.zero_add]; omega) (by simp) ?_)
  intro v1 wA ownA growA _
  have OB := hide (WPutT.ownN_app (A := []) (M := L) (m := L.length) (by rw [List.length_nil, Nat.zero_add]; exact ownA) rfl)
  rw [List.nil_append] at OB
  have hg1 : ∀ q, (Value.slice (some ⟨w.heap.size + 2, 0, none⟩) 0 0).ownBlock = some q → q = w.heap.size + 2 := fun q hq => (Option.some.inj hq).symm
  have B1 := B1.grown growA (fun e => by have := hg1 _ e.symm; omega)
  have b3 := b2.grown growA b2.size (fun q hq => by have := hg1 q hq; omega)
  obtain ⟨a3, c3, hv3⟩ := Mem.own_shape (unhide OB)
  subst hv3
  have z0 := B1.cell 0
  have zf := B1.fr 0
  simp only [List.getElem?_toArray, List.getElem?_cons_zero] at z0
  clear ownA growA hg1 OA NV x0 B0 b2
  go_wp2
  refine bodyPost_ret (v := .agg #[.slice a3 L.length c3]) (by simp [results, Tryd.results68, go_sem, z0]) rfl ⟨_, rfl, ?_, ?_⟩
  · exact Mem.ownN_mono (Mem.ownN_set (unhide OB) _ _ (by show w.heap.size + 1 < w.heap.size + 2; omega)) (by omega)
  · exact b3.setCell (by show w.heap.size ≤ w.heap.size + 1; omega) _
end WCopyG
end Go.Proofs.YtnmdmhokdcmhcaaDoor
