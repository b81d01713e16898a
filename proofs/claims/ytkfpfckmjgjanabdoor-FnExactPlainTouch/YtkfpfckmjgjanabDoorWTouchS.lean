/- The specification's PlainTouch (by genTS7.py). -/
import Derived.Test.YtkfpfckmjgjanabDoorG66
import Derived.Test.YtkfpfckmjgjanabDoorG61
import Derived.Test.YtkfpfckmjgjanabDoorG68
import Derived.Test.YtkfpfckmjgjanabDoorWNode
namespace Go.Proofs.YtkfpfckmjgjanabDoor
open Go.RowKit Go.Maps
namespace Pl
theorem node_dirT (p : ByteArray) (t : Int) : nodeB ⟨p, 1, ⟨#[]⟩, t, 0⟩ = (wayB p && (decide (0 ≤ t) && decide (t ≤ 1000000))) := by
  have e : (⟨#[]⟩ : ByteArray).size = 0 := rfl
  simp [nodeB, wayB, kindB, e]
theorem tch_long {L : List Nd} {p : ByteArray} {t c : Int} (h : 8000 < p.size) : chgC L ⟨p, 1, ⟨#[]⟩, t, 0⟩ c = 2 := by rw [chgC, if_neg (by simp; omega)]
theorem tch_size {p : ByteArray} (h : p.size ≤ 8000) : p.size ≤ 8000 ∧ (⟨#[]⟩ : ByteArray).size ≤ 8000 := ⟨h, by decide⟩
theorem tch_form {L : List Nd} {p : ByteArray} {t c : Int} (h : p.size ≤ 8000) (h2 : plainB L = false ∨ wayB p = false ∨ (decide (0 ≤ t) && decide (t ≤ 1000000)) = false) : chgC L ⟨p, 1, ⟨#[]⟩, t, 0⟩ c = 1 := by
  rw [chgC, if_pos (tch_size h), if_neg]
  rw [node_dirT]
  rcases h2 with h2 | h2 | h2
  · simp [h2]
  · simp [h2]
  · rw [h2]; simp
theorem tch_go {L : List Nd} {p : ByteArray} {t c : Int} (h : p.size ≤ 8000) (h2 : plainB L = true) (h3 : wayB p = true) (h4 : (decide (0 ≤ t) && decide (t ≤ 1000000)) = true) : chgC L ⟨p, 1, ⟨#[]⟩, t, 0⟩ c = c := by
  rw [chgC, if_pos (tch_size h), if_pos ⟨h2, by rw [node_dirT, h3, h4]; rfl⟩]
theorem tch_none {L : List Nd} {p : ByteArray} {t : Int} (h : p.size ≤ 8000) (h2 : plainB L = true) (h3 : wayB p = true) (h4 : (decide (0 ≤ t) && decide (t ≤ 1000000)) = true) (h5 : L.find? (fun m => decide (m.path = p)) = none) : chgC L ⟨p, 1, ⟨#[]⟩, t, 0⟩ (tchC L p) = 6 := by rw [tch_go h h2 h3 h4, tchC, if_pos h5]
theorem tch_ok {L : List Nd} {p : ByteArray} {t : Int} (h : p.size ≤ 8000) (h2 : plainB L = true) (h3 : wayB p = true) (h4 : (decide (0 ≤ t) && decide (t ≤ 1000000)) = true) (h5 : L.find? (fun m => decide (m.path = p)) ≠ none) : chgC L ⟨p, 1, ⟨#[]⟩, t, 0⟩ (tchC L p) = 0 := by rw [tch_go h h2 h3 h4, tchC, if_neg h5]
theorem tch_set {p : ByteArray} {t : Int} {m : Nd} : ∀ {L : List Nd} {k : Nat}, L.Pairwise (fun a b => a.path ≠ b.path) → L[k]? = some m → m.path = p → L.set k ⟨m.path, m.kind, m.data, t, m.mark⟩ = tchL L p t := by
  intro L
  induction L with
  | nil => intro k _ h _; simp at h
  | cons n L ih =>
    intro k hw hk hp
    have hw' := List.pairwise_cons.1 hw
    cases k with
    | zero =>
      simp at hk; subst hk
      have hoff : ∀ x ∈ L, x.path ≠ p := fun x hx e => hw'.1 x hx (hp.trans e.symm)
      have := tch_off (t := t) hoff
      unfold tchL at this ⊢
      rw [List.set_cons_zero, List.map_cons, this]
      simp [tchN, hp]
    | succ k =>
      have hk' : L[k]? = some m := by simpa using hk
      have hne : n.path ≠ p := fun e => hw'.1 m (List.mem_of_getElem? hk') (e.trans hp.symm)
      have := ih hw'.2 hk' hp
      unfold tchL at this ⊢
      rw [List.set_cons_succ, List.map_cons, this]
      simp [tchN, hne]
theorem cells_time {t : Int} {m : Nd} : ∀ {L : List Nd} {k : Nat}, L[k]? = some m → cellsN (L.set k ⟨m.path, m.kind, m.data, t, m.mark⟩) = (cellsN L).set (k * 5 + 3) (.int .i64 t) := by
  intro L
  induction L with
  | nil => intro k h; simp at h
  | cons n L ih =>
    intro k hk
    cases k with
    | zero =>
      simp at hk; subst hk
      rw [List.set_cons_zero, cellsN_cons, cellsN_cons]
      rfl
    | succ k =>
      rw [List.set_cons_succ, cellsN_cons, cellsN_cons, ih (by simpa using hk), List.set_append_right _ _ (by show 5 ≤ _; omega)]
      congr 2
      show k * 5 + 3 = (k + 1) * 5 + 3 - 5
      omega
end Pl
namespace Mem
theorem own_some {w : World} {B n : Nat} {v : Value} {L : List Pl.Nd} (h : ownN w B v L) (hn : n < L.length) : ∃ g cap, v = .slice (some ⟨g, 0, none⟩) L.length cap := by
  rcases h.2 with ⟨_, h0⟩ | ⟨g, cap, cur, hv, _⟩
  · omega
  · exact ⟨g, cap, hv⟩
theorem own_fr {w : World} {B g n cap : Nat} {L : List Pl.Nd} (h : ownN w B (.slice (some ⟨g, 0, none⟩) n cap) L) (j : Nat) : w.frozen? ⟨g, j, none⟩ = false := by
  rcases h.2 with ⟨hx, _⟩ | ⟨g', cap', cur, hv, hb, hg, _⟩
  · cases hx
  · cases hv; exact row_frozen hg
theorem own_time_cell {w : World} {B g n cap k : Nat} {L : List Pl.Nd} {m : Pl.Nd} (h : ownN w B (.slice (some ⟨g, 0, none⟩) n cap) L) (hk : L[k]? = some m) : w.cell? ⟨g, k * 5 + 3, none⟩ = some (.int .i64 m.time) := by
  obtain ⟨b', o', e, h1, h2, h3, h4, h5, h6⟩ := (ownN_nodes h).2 k m hk
  cases e
  rw [Nat.zero_add] at h5
  exact h5
theorem own_time {w : World} {B g n cap k : Nat} {L : List Pl.Nd} {m : Pl.Nd} (h : ownN w B (.slice (some ⟨g, 0, none⟩) n cap) L) (hk : L[k]? = some m) (t : Int) : ownN (w.setCell ⟨g, k * 5 + 3, none⟩ (.int .i64 t)) B (.slice (some ⟨g, 0, none⟩) n cap) (L.set k ⟨m.path, m.kind, m.data, t, m.mark⟩) := by
  have hlt : k < L.length := (List.getElem?_eq_some_iff.1 hk).1
  rcases h.2 with ⟨hx, _⟩ | ⟨g', cap', cur, hv, hb, hg, hc, hm, hsz, htk⟩
  · cases hx
  · cases hv
    unfold ownN
    rw [Pl.cells_time hk, List.length_set]
    refine ⟨by rw [List.length_set, Pl.cellsN_len], .inr ⟨g, cap, cur.setIfInBounds (k * 5 + 3) (.int .i64 t), rfl, hb, heap_setCell_same _ _ _ _ _ _ hg, hc, hm, by rw [Array.size_setIfInBounds]; exact hsz, ?_⟩⟩
    rw [Array.toList_setIfInBounds, List.take_set, htk]
end Mem
namespace WPanic
set_option linter.unusedSimpArgs false in
set_option maxRecDepth 100000 in
set_option maxHeartbeats 2000000 in
theorem touch_spec (g : Nat) (L : List Pl.Nd) (p : ByteArray) (t : Int) (w : World) (hl : L.length ≤ 1048576) (hv : Mem.isNodes w (some ⟨g, 0, none⟩) L) (hok : ∀ n ∈ L, n.path.size ≤ 1048576 ∧ n.data.size ≤ 1048576) (hp : p.size ≤ 1048576) :
    Calls Tryd.prog 34 #[.agg #[.slice (some ⟨g, 0, none⟩) L.length L.length], .string p, .int .i64 t] w fun e w' => ∃ v, e = .returned (.agg #[v, .int .i64 (Pl.chgC L (⟨p, 1, ⟨#[]⟩, t, 0⟩ : Pl.Nd) (Pl.tchC L p))]) ∧ Mem.ownN w' w.heap.size v (Pl.chgO L ⟨p, 1, ⟨#[]⟩, t, 0⟩ (Pl.tchC L p) (Pl.tchL L p t)) ∧ Below w.heap.size w w' := by
  have b0 : Below w.heap.size w ((w.alloc (.cells #[.slice (some ⟨g, 0, none⟩) L.length L.length] 39)).alloc (.cells #[.slice none 0 0, .int .i64 0] 41)) := ((Below.refl _ _).alloc (Nat.le_refl _) _).alloc (by simp) _
  have T0 := (Mem.Blk.new w #[.slice (some ⟨g, 0, none⟩) L.length L.length] 39).alloc (.cells #[.slice none 0 0, .int .i64 0] 41)
  have R0 : Mem.Blk ((w.alloc (.cells #[.slice (some ⟨g, 0, none⟩) L.length L.length] 39)).alloc (.cells #[.slice none 0 0, .int .i64 0] 41)) (w.heap.size + 1) #[.slice none 0 0, .int .i64 0] 41 := Mem.new_two _ _ _
  have HPL := hide (fun W (b : Below w.heap.size w W) => WPlainT.spec_any (some ⟨g, 0, none⟩) L.length L W hl (Mem.nodes_call hv b) hok)
  have HPA := hide (fun W => l07path_any p W hp)
  have HTI := hide (fun W => WNode.time_any t W)
  have HAT := hide (fun W (b : Below w.heap.size w W) => WTreeS.at_any (some ⟨g, 0, none⟩) L.length L p W hl (Mem.nodes_call hv b))
  have HCO := hide (fun W (b : Below w.heap.size w W) (h : L.length ≤ 1000) => WCopyG.copy_any g 0 L.length L W h (Mem.nodes_call hv b))
  clear hv hok
  by_cases hz : 8000 < p.size
  · have t0 : (8000 : Int) < (p.size : Int) := by omega
    go_enter Tryd.func34, Tryd.ntmps34
    have EC : Hid (Pl.chgC L (⟨p, 1, ⟨#[]⟩, t, 0⟩ : Pl.Nd) (Pl.tchC L p) = 2) := hide (Pl.tch_long hz)
    go_wp2_with fail
    refine (WIll3.ill_any 2 _).mono ?_
    rintro e wI ⟨rfl, bI⟩
    have bJ := b0.trans (bI.mono b0.size)
    have RJ := R0.call bI
    have d0 := RJ.cell 0
    have f0 := RJ.fr 0
    have d1 := RJ.cell 1
    have f1 := RJ.fr 1
    simp only [kA0, kA1, kA2] at d0 d1
    go_wp2
    refine bodyPost_ret (v := .agg #[.slice none 0 0, .int .i64 2]) (by simp [results, Tryd.results34, go_sem, d0, d1]) rfl ⟨.slice none 0 0, by rw [unhide EC], by rw [Pl.chgO, unhide EC]; exact Mem.ownN_nil _ _, ?_⟩
    exact (bJ.setCell (by show w.heap.size ≤ w.heap.size + 1; omega) _).setCell (by show w.heap.size ≤ w.heap.size + 1; omega) _
  have t0 : ¬ (8000 : Int) < (p.size : Int) := by omega
  have hz' : p.size ≤ 8000 := by omega
  have c0 := T0.cell 0
  simp only [kA0, kA1] at c0
  go_enter Tryd.func34, Tryd.ntmps34
  go_wp2_with fail
  refine (unhide HPL _ b0).mono ?_
  rintro e w1 ⟨rfl, b1⟩
  have bw1 := b0.trans (b1.mono b0.size)
  have T1 := T0.call b1
  have R1 := R0.call b1
  clear b0 b1 T0 R0 c0
  cases hP : Pl.plainB L
  · skip
    have EC : Hid (Pl.chgC L (⟨p, 1, ⟨#[]⟩, t, 0⟩ : Pl.Nd) (Pl.tchC L p) = 1) := hide (Pl.tch_form hz' (.inl hP))
    go_wp2_with fail
    refine (WIll3.ill_any 1 _).mono ?_
    rintro e wI ⟨rfl, bI⟩
    have bJ := bw1.trans (bI.mono bw1.size)
    have RJ := R1.call bI
    have d0 := RJ.cell 0
    have f0 := RJ.fr 0
    have d1 := RJ.cell 1
    have f1 := RJ.fr 1
    simp only [kA0, kA1, kA2] at d0 d1
    go_wp2
    refine bodyPost_ret (v := .agg #[.slice none 0 0, .int .i64 1]) (by simp [results, Tryd.results34, go_sem, d0, d1]) rfl ⟨.slice none 0 0, by rw [unhide EC], by rw [Pl.chgO, unhide EC]; exact Mem.ownN_nil _ _, ?_⟩
    exact (bJ.setCell (by show w.heap.size ≤ w.heap.size + 1; omega) _).setCell (by show w.heap.size ≤ w.heap.size + 1; omega) _
  go_wp2_with fail
  refine (unhide HPA _).mono ?_
  rintro e w2 ⟨rfl, b2⟩
  have bw2 := bw1.trans (b2.mono bw1.size)
  have T2 := T1.call b2
  have R2 := R1.call b2
  have c0 := T2.cell 0
  simp only [kA0, kA1] at c0
  clear bw1 b2 T1 R1
  cases hQ : Pl.wayB p
  · skip
    have EC : Hid (Pl.chgC L (⟨p, 1, ⟨#[]⟩, t, 0⟩ : Pl.Nd) (Pl.tchC L p) = 1) := hide (Pl.tch_form hz' (.inr (.inl hQ)))
    go_wp2_with fail
    refine (WIll3.ill_any 1 _).mono ?_
    rintro e wI ⟨rfl, bI⟩
    have bJ := bw2.trans (bI.mono bw2.size)
    have RJ := R2.call bI
    have d0 := RJ.cell 0
    have f0 := RJ.fr 0
    have d1 := RJ.cell 1
    have f1 := RJ.fr 1
    simp only [kA0, kA1, kA2] at d0 d1
    go_wp2
    refine bodyPost_ret (v := .agg #[.slice none 0 0, .int .i64 1]) (by simp [results, Tryd.results34, go_sem, d0, d1]) rfl ⟨.slice none 0 0, by rw [unhide EC], by rw [Pl.chgO, unhide EC]; exact Mem.ownN_nil _ _, ?_⟩
    exact (bJ.setCell (by show w.heap.size ≤ w.heap.size + 1; omega) _).setCell (by show w.heap.size ≤ w.heap.size + 1; omega) _
  go_wp2_with fail
  refine (unhide HTI _).mono ?_
  rintro e w2' ⟨rfl, rfl⟩
  cases hT : (decide (0 ≤ t) && decide (t ≤ 1000000))
  · skip
    have EC : Hid (Pl.chgC L (⟨p, 1, ⟨#[]⟩, t, 0⟩ : Pl.Nd) (Pl.tchC L p) = 1) := hide (Pl.tch_form hz' (.inr (.inr hT)))
    go_wp2_with fail
    refine (WIll3.ill_any 1 _).mono ?_
    rintro e wI ⟨rfl, bI⟩
    have bJ := bw2.trans (bI.mono bw2.size)
    have RJ := R2.call bI
    have d0 := RJ.cell 0
    have f0 := RJ.fr 0
    have d1 := RJ.cell 1
    have f1 := RJ.fr 1
    simp only [kA0, kA1, kA2] at d0 d1
    go_wp2
    refine bodyPost_ret (v := .agg #[.slice none 0 0, .int .i64 1]) (by simp [results, Tryd.results34, go_sem, d0, d1]) rfl ⟨.slice none 0 0, by rw [unhide EC], by rw [Pl.chgO, unhide EC]; exact Mem.ownN_nil _ _, ?_⟩
    exact (bJ.setCell (by show w.heap.size ≤ w.heap.size + 1; omega) _).setCell (by show w.heap.size ≤ w.heap.size + 1; omega) _
  go_wp2_with fail
  refine (unhide HAT _ bw2).mono ?_
  rintro e w3 ⟨⟨r, rfl, hr⟩, b3⟩
  have bw3 := bw2.trans (b3.mono bw2.size)
  have T3 := T2.call b3
  have R3 := R2.call b3
  have c0 := T3.cell 0
  simp only [kA0, kA1] at c0
  clear bw2 b3 T2 R2
  by_cases h0 : r < 0
  · skip
    have EC : Hid (Pl.chgC L (⟨p, 1, ⟨#[]⟩, t, 0⟩ : Pl.Nd) (Pl.tchC L p) = 6) := hide (Pl.tch_none hz' hP hQ hT (at_none hr h0))
    go_wp2_with fail
    refine (WIll3.ill_any 6 _).mono ?_
    rintro e wI ⟨rfl, bI⟩
    have bJ := bw3.trans (bI.mono bw3.size)
    have RJ := R3.call bI
    have d0 := RJ.cell 0
    have f0 := RJ.fr 0
    have d1 := RJ.cell 1
    have f1 := RJ.fr 1
    simp only [kA0, kA1, kA2] at d0 d1
    go_wp2
    refine bodyPost_ret (v := .agg #[.slice none 0 0, .int .i64 6]) (by simp [results, Tryd.results34, go_sem, d0, d1]) rfl ⟨.slice none 0 0, by rw [unhide EC], by rw [Pl.chgO, unhide EC]; exact Mem.ownN_nil _ _, ?_⟩
    exact (bJ.setCell (by show w.heap.size ≤ w.heap.size + 1; omega) _).setCell (by show w.heap.size ≤ w.heap.size + 1; omega) _
  have EC : Hid (Pl.chgC L (⟨p, 1, ⟨#[]⟩, t, 0⟩ : Pl.Nd) (Pl.tchC L p) = 0) := hide (Pl.tch_ok hz' hP hQ hT (at_some hr (by omega)))
  rcases hr.out with ⟨k, m, rfl, hk, hf⟩ | ⟨h1, _⟩
  rotate_left
  · omega
  have hmp : m.path = p := by simpa using List.find?_some hf
  have hlk : k < L.length := (List.getElem?_eq_some_iff.1 hk).1
  have HTC := hide (Pl.tch_set (t := t) (Pl.tree_apart (Pl.plain_tree hP)) hk hmp)
  have h40 : L.length ≤ 40 := (Pl.tree_rise (Pl.plain_tree hP)).2.2
  have HK := hide hk
  clear hr hf hk hmp
  go_wp2_with fail
  refine (unhide HCO _ bw3 (by omega)).mono ?_
  rintro e w5 ⟨v, rfl, own, b5⟩
  obtain ⟨g5, cap5, rfl⟩ := Mem.own_some own (by omega)
  have hg5 := Mem.ownN_lt own g5 rfl
  have b6 : Below w5.heap.size w5 (w5.alloc (.cells #[.slice (some ⟨g5, 0, none⟩) L.length cap5] 39)) := (Below.refl _ _).alloc (Nat.le_refl _) _
  have own6 := Mem.ownN_call own b6
  have HS := hide R3.lt
  have bw6 := (bw3.trans (b5.mono bw3.size)).trans (b6.mono (bw3.trans (b5.mono bw3.size)).size)
  have R6 := (R3.call b5).call b6
  have V6 : Mem.Blk (w5.alloc (.cells #[.slice (some ⟨g5, 0, none⟩) L.length cap5] 39)) w5.heap.size #[.slice (some ⟨g5, 0, none⟩) L.length cap5] 39 := Mem.Blk.new _ _ _
  have q3 := Mem.own_time_cell own6 (unhide HK)
  have q4 := Mem.own_fr own6 (k * 5 + 3)
  have own7 := Mem.own_time own6 (unhide HK) t
  rw [unhide HTC] at own7
  have bw7 := bw6.setCell (p := ⟨g5, k * 5 + 3, none⟩) (by show w.heap.size ≤ g5; have := bw3.size; omega) (.int .i64 t)
  have hne : w.heap.size + 1 ≠ g5 := by have := unhide HS; omega
  have hne2 : w5.heap.size ≠ g5 := by omega
  have R7 := R6.far ⟨g5, k * 5 + 3, none⟩ (.int .i64 t) hne
  have V7 := V6.far ⟨g5, k * 5 + 3, none⟩ (.int .i64 t) hne2
  have v0 := V6.cell 0
  have v1 := V7.cell 0
  have d0 := R7.cell 0
  have f0 := R7.fr 0
  have d1 := R7.cell 1
  have f1 := R7.fr 1
  simp only [kA0, kA1, kA2] at d0 d1
  simp only [kA0, kA1] at v0 v1
  have hix : 0 ≤ (k : Int) ∧ (k : Int) < (L.length : Int) := by omega
  have OW := hide own7
  have BW := hide bw7
  clear bw3 b5 b6 T3 R3 own own6 HCO bw6 R6 V6 own7 bw7 R7 V7 HTC HK hg5
  go_wp2
  refine bodyPost_ret (v := .agg #[.slice (some ⟨g5, 0, none⟩) L.length cap5, .int .i64 0]) (by simp [results, Tryd.results34, go_sem, d0, d1]) rfl ⟨.slice (some ⟨g5, 0, none⟩) L.length cap5, by rw [unhide EC], ?_, ?_⟩
  · rw [Pl.chgO, unhide EC, if_pos rfl]
    exact Mem.ownN_mono (Mem.ownN_set (Mem.ownN_set (unhide OW) _ _ (unhide HS)) _ _ (unhide HS)) (by have := unhide HS; omega)
  · exact ((unhide BW).setCell (by show w.heap.size ≤ w.heap.size + 1; omega) _).setCell (by show w.heap.size ≤ w.heap.size + 1; omega) _
end WPanic
end Go.Proofs.YtkfpfckmjgjanabDoor
