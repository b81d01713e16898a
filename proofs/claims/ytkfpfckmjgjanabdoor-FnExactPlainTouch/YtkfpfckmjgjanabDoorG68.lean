/- Several texts of one claim in one file: MemPutT, WCopyG. -/
import Derived.Test.YtkfpfckmjgjanabDoorProg
import Derived.Test.YtkfpfckmjgjanabDoorG17
import Derived.Test.YtkfpfckmjgjanabDoorG25
/- Rows of nodes that are put together: what serves an append of one row of nodes to another. -/
namespace Go.Proofs.YtkfpfckmjgjanabDoor
open Go.RowKit
namespace WPutT
theorem infoN : (Tryd.prog.info? 50).map (fun i => (i.zero, i.size, i.bytes)) = some (some (.agg #[.string ⟨#[]⟩, .int .i64 0, .string ⟨#[]⟩, .int .i64 0, .int .i64 0]), 5, 56) := by kernel_rfl
theorem cells_at {w : World} {g o : Nat} {M : List Pl.Nd} (h : Mem.isNodes w (some ⟨g, o, none⟩) M) : ∀ j u, (Pl.cellsN M)[j]? = some u → w.cell? ((⟨g, o, none⟩ : Addr).add j) = some u := by
  intro j u hj
  have hlt : j < M.length * 5 := by
    have := (List.getElem?_eq_some_iff.1 hj).1
    rwa [Pl.cellsN_len] at this
  have hd : j / 5 < M.length := by omega
  obtain ⟨g', o', e, h0, h1, h2, h3, h4, h5⟩ := h (j / 5) M[j / 5] (List.getElem?_eq_getElem hd)
  cases e
  have hc := Pl.cellsN_get M (j / 5) _ (List.getElem?_eq_getElem hd) (j % 5) (by omega)
  rw [show j / 5 * 5 + j % 5 = j by omega, hj] at hc
  rw [Mem.add_any]
  have hm : j % 5 = 0 ∨ j % 5 = 1 ∨ j % 5 = 2 ∨ j % 5 = 3 ∨ j % 5 = 4 := by omega
  have ej : o + j = o + j / 5 * 5 + j % 5 := by omega
  rw [ej, hc]
  rcases hm with h | h | h | h | h <;> rw [h]
  · exact h1
  · exact h2
  · exact h3
  · exact h4
  · exact h5
theorem cells_one (M : List Pl.Nd) : ∀ u ∈ Pl.cellsN M, u.oneCell' = true := by
  intro u hu
  rw [Pl.cellsN, List.mem_flatMap] at hu
  obtain ⟨n, _, hn⟩ := hu
  exact Mem.cs_one n u hn
theorem ownN_app {w : World} {B m : Nat} {v : Value} {A M : List Pl.Nd} (h : w.ownsRow B 50 5 v (A.length + m) (Pl.cellsN A ++ Pl.cellsN M)) (hm : m = M.length) : Mem.ownN w B v (A ++ M) := by
  subst hm
  unfold Mem.ownN
  rw [Pl.cellsN_app, List.length_append]; exact h
theorem nodes_drop {w : World} {g : Nat} {L : List Pl.Nd} (h : Mem.isNodes w (some ⟨g, 0, none⟩) L) (i : Nat) : Mem.isNodes w (some ⟨g, i * 5, none⟩) (L.drop i) := by
  intro k n hk
  rw [List.getElem?_drop] at hk
  obtain ⟨b', o', e, h1, h2, h3, h4, h5, h6⟩ := h (i + k) n hk
  cases e
  have ee : 0 + (i + k) * 5 = i * 5 + k * 5 := by omega
  rw [ee] at h2 h3 h4 h5 h6
  exact ⟨g, i * 5, rfl, h1, h2, h3, h4, h5, h6⟩
theorem nodes_take {w : World} {g : Nat} {L : List Pl.Nd} (h : Mem.isNodes w (some ⟨g, 0, none⟩) L) (i : Nat) : Mem.isNodes w (some ⟨g, 0, none⟩) (L.take i) := by
  intro k n hk
  rw [List.getElem?_take] at hk
  split at hk
  · exact h k n hk
  · cases hk
end WPutT
end Go.Proofs.YtkfpfckmjgjanabDoor

/- The walk of the specification's l03Copy over a row that is there. -/
namespace Go.Proofs.YtkfpfckmjgjanabDoor
open Go.RowKit
namespace WCopyG
set_option linter.unusedSimpArgs false in
set_option maxRecDepth 100000 in
set_option maxHeartbeats 1000000 in
theorem copy_any (g o cap : Nat) (L : List Pl.Nd) (w : World) (hl : L.length ≤ 1000) (hv : Mem.isNodes w (some ⟨g, o, none⟩) L) :
    Calls Tryd.prog 69 #[.agg #[.slice (some ⟨g, o, none⟩) L.length cap]] w fun e w' => ∃ v, e = .returned (.agg #[v]) ∧ Mem.ownN w' w.heap.size v L ∧ Below w.heap.size w w' := by
  obtain ⟨i0, hi, hz0, hz1, hz2⟩ := info_parts WPutT.infoN
  have b2 : Below w.heap.size w (((w.alloc (.cells #[.slice (some ⟨g, o, none⟩) L.length cap] 39)).alloc (.cells #[.slice none 0 0] 39)).alloc (.cells #[] 50)) := (((Below.refl _ _).alloc (Nat.le_refl _) _).alloc (by simp) _).alloc (by simp; omega) _
  have B0 := ((Mem.Blk.new w #[.slice (some ⟨g, o, none⟩) L.length cap] 39).alloc (.cells #[.slice none 0 0] 39)).alloc (.cells #[] 50)
  have B1 : Mem.Blk (((w.alloc (.cells #[.slice (some ⟨g, o, none⟩) L.length cap] 39)).alloc (.cells #[.slice none 0 0] 39)).alloc (.cells #[] 50)) (w.heap.size + 1) #[.slice none 0 0] 39 := (show Mem.Blk ((w.alloc (.cells #[.slice (some ⟨g, o, none⟩) L.length cap] 39)).alloc (.cells #[.slice none 0 0] 39)) (w.heap.size + 1) #[.slice none 0 0] 39 from Mem.new_two _ _ _).alloc _
  have OA : Hid (Mem.ownN (((w.alloc (.cells #[.slice (some ⟨g, o, none⟩) L.length cap] 39)).alloc (.cells #[.slice none 0 0] 39)).alloc (.cells #[] 50)) (w.heap.size + 2) (.slice (some ⟨w.heap.size + 2, 0, none⟩) 0 0) []) := by
    refine ⟨rfl, .inr ⟨w.heap.size + 2, 0, #[], rfl, Nat.le_refl _, ?_, Nat.le_refl _, Nat.zero_le _, rfl, rfl⟩⟩
    have h := heap_alloc_new ((w.alloc (.cells #[.slice (some ⟨g, o, none⟩) L.length cap] 39)).alloc (.cells #[.slice none 0 0] 39)) (.cells #[] 50)
    rw [show ((w.alloc (.cells #[.slice (some ⟨g, o, none⟩) L.length cap] 39)).alloc (.cells #[.slice none 0 0] 39)).heap.size = w.heap.size + 2 by simp] at h
    exact h
  have NV := hide (Mem.nodes_call hv b2)
  have x0 := B0.cell 0
  simp only [kA0, kA1] at x0
  clear hv
  go_enter Tryd.func69, Tryd.ntmps69
  go_wp2_with (at_builtin; refine wpList_append_own _ rfl _ _ 37 rfl (w.heap.size + 2) 50 i0 _ 5 56 Tryd.underlying37 hi hz0 hz1 hz2 rfl (by decide) _ _ _ rfl (unhide OA) ⟨g, o, none⟩ L.length cap (Pl.cellsN L) rfl (by rw [Pl.cellsN_len]) (WPutT.cells_at (unhide NV)) (WPutT.cells_one _) (by rw [List.length_nil, Nat.zero_add]; unfold maxLen; omega) (by rw [List.length_nil, Nat.zero_add]; omega) (by simp) ?_)
  intro v1 wA ownA growA _
  have OB := hide (WPutT.ownN_app (A := []) (M := L) (m := L.length) (by rw [List.length_nil, Nat.zero_add]; exact ownA) rfl)
  rw [List.nil_append] at OB
  have hg1 : ∀ q, (Value.slice (some ⟨w.heap.size + 2, 0, none⟩) 0 0).ownBlock = some q → q = w.heap.size + 2 := fun q hq => (Option.some.inj hq).symm
  have B1 := B1.grown growA (fun e => by have := hg1 _ e.symm; omega)
  have b3 := b2.grown growA b2.size (fun q hq => by have := hg1 q hq; omega)
  obtain ⟨a3, c3, hv3⟩ := Mem.own_shape (unhide OB)
  subst hv3
  have z0 := B1.cell 0
  have zf := B1.fr 0
  simp only [kA0, kA1] at z0
  clear ownA growA hg1 OA NV x0 B0 b2
  go_wp2
  refine bodyPost_ret (v := .agg #[.slice a3 L.length c3]) (by simp [results, Tryd.results69, go_sem, z0]) rfl ⟨_, rfl, ?_, ?_⟩
  · exact Mem.ownN_mono (Mem.ownN_set (unhide OB) _ _ (by show w.heap.size + 1 < w.heap.size + 2; omega)) (by omega)
  · exact b3.setCell (by show w.heap.size ≤ w.heap.size + 1; omega) _
end WCopyG
end Go.Proofs.YtkfpfckmjgjanabDoor

