/- The specification's PlainRemove (by genRS7.py). -/
import Derived.Test.YtkfpfckmjgjanabDoorG72
import Derived.Test.YtkfpfckmjgjanabDoorG61
import Derived.Test.YtkfpfckmjgjanabDoorWCutS
import Derived.Test.YtkfpfckmjgjanabDoorG25
namespace Go.Proofs.YtkfpfckmjgjanabDoor
open Go.RowKit Go.Maps
namespace Pl
theorem node_dir (p : ByteArray) (t : Int) : nodeB ⟨p, 1, ⟨#[]⟩, t, 0⟩ = (wayB p && decide (0 ≤ t ∧ t ≤ 1000000)) := by
  have e : (⟨#[]⟩ : ByteArray).size = 0 := rfl
  simp [nodeB, wayB, kindB, e]
theorem rem_long {L : List Nd} {p : ByteArray} {c : Int} (h : 8000 < p.size) : chgC L ⟨p, 1, ⟨#[]⟩, 0, 0⟩ c = 2 := by rw [chgC, if_neg (by simp; omega)]
theorem rem_size {p : ByteArray} (h : p.size ≤ 8000) : p.size ≤ 8000 ∧ (⟨#[]⟩ : ByteArray).size ≤ 8000 := ⟨h, by decide⟩
theorem rem_form {L : List Nd} {p : ByteArray} {c : Int} (h : p.size ≤ 8000) (h2 : plainB L = false ∨ wayB p = false) : chgC L ⟨p, 1, ⟨#[]⟩, 0, 0⟩ c = 1 := by
  rw [chgC, if_pos (rem_size h), if_neg]
  rw [node_dir]
  rcases h2 with h2 | h2 <;> simp [h2]
theorem rem_go {L : List Nd} {p : ByteArray} {c : Int} (h : p.size ≤ 8000) (h2 : plainB L = true) (h3 : wayB p = true) : chgC L ⟨p, 1, ⟨#[]⟩, 0, 0⟩ c = c := by
  rw [chgC, if_pos (rem_size h), if_pos ⟨h2, by rw [node_dir, h3]; rfl⟩]
theorem rem_none {L : List Nd} {p : ByteArray} (h : p.size ≤ 8000) (h2 : plainB L = true) (h3 : wayB p = true) (h4 : L.find? (fun m => decide (m.path = p)) = none) : chgC L ⟨p, 1, ⟨#[]⟩, 0, 0⟩ (remC L p) = 6 := by rw [rem_go h h2 h3, remC, if_pos h4]
theorem rem_over {L : List Nd} {p : ByteArray} (h : p.size ≤ 8000) (h2 : plainB L = true) (h3 : wayB p = true) (h4 : L.find? (fun m => decide (m.path = p)) ≠ none) (h5 : overL L p = true) : chgC L ⟨p, 1, ⟨#[]⟩, 0, 0⟩ (remC L p) = 10 := by rw [rem_go h h2 h3, remC, if_neg h4, if_pos h5]
theorem rem_ok {L : List Nd} {p : ByteArray} (h : p.size ≤ 8000) (h2 : plainB L = true) (h3 : wayB p = true) (h4 : L.find? (fun m => decide (m.path = p)) ≠ none) (h5 : overL L p = false) : chgC L ⟨p, 1, ⟨#[]⟩, 0, 0⟩ (remC L p) = 0 := by rw [rem_go h h2 h3, remC, if_neg h4, if_neg (by rw [h5]; decide)]
end Pl
namespace WPanic
set_option linter.unusedSimpArgs false in
set_option maxRecDepth 100000 in
set_option maxHeartbeats 2000000 in
theorem remove_spec (a : Option Addr) (cap : Nat) (L : List Pl.Nd) (p : ByteArray) (w : World) (hl : L.length ≤ 1048576) (hv : Mem.isNodes w a L) (hok : ∀ n ∈ L, n.path.size ≤ 1048576 ∧ n.data.size ≤ 1048576) (hp : p.size ≤ 1048576) :
    Calls Tryd.prog 32 #[.agg #[.slice a L.length cap], .string p] w fun e w' => ∃ v, e = .returned (.agg #[v, .int .i64 (Pl.chgC L (⟨p, 1, ⟨#[]⟩, 0, 0⟩ : Pl.Nd) (Pl.remC L p))]) ∧ Mem.ownN w' w.heap.size v (Pl.chgO L ⟨p, 1, ⟨#[]⟩, 0, 0⟩ (Pl.remC L p) (Pl.offL p L)) ∧ Below w.heap.size w w' := by
  have b0 : Below w.heap.size w ((w.alloc (.cells #[.slice a L.length cap] 39)).alloc (.cells #[.slice none 0 0, .int .i64 0] 41)) := ((Below.refl _ _).alloc (Nat.le_refl _) _).alloc (by simp) _
  have T0 := (Mem.Blk.new w #[.slice a L.length cap] 39).alloc (.cells #[.slice none 0 0, .int .i64 0] 41)
  have R0 : Mem.Blk ((w.alloc (.cells #[.slice a L.length cap] 39)).alloc (.cells #[.slice none 0 0, .int .i64 0] 41)) (w.heap.size + 1) #[.slice none 0 0, .int .i64 0] 41 := Mem.new_two _ _ _
  have HPL := hide (fun W (b : Below w.heap.size w W) => WPlainT.spec_any a cap L W hl (Mem.nodes_call hv b) hok)
  have HPA := hide (fun W => l07path_any p W hp)
  have HAT := hide (fun W (b : Below w.heap.size w W) => WTreeS.at_any a cap L p W hl (Mem.nodes_call hv b))
  have HOV := hide (fun W (b : Below w.heap.size w W) => WPutS.over_any a cap L p W hl (Mem.nodes_call hv b) hp)
  have HCU := hide (fun W (b : Below w.heap.size w W) => WCutS.l03_any a cap L p W hl (Mem.nodes_call hv b) hp)
  clear hv hok
  by_cases hz : 8000 < p.size
  · have t0 : (8000 : Int) < (p.size : Int) := by omega
    go_enter Tryd.func32, Tryd.ntmps32
    have EC : Hid (Pl.chgC L (⟨p, 1, ⟨#[]⟩, 0, 0⟩ : Pl.Nd) (Pl.remC L p) = 2) := hide (Pl.rem_long hz)
    go_wp2_with fail
    refine (WIll3.ill_any 2 _).mono ?_
    rintro e wI ⟨rfl, bI⟩
    have bJ := b0.trans (bI.mono b0.size)
    have RJ := R0.call bI
    have d0 := RJ.cell 0
    have f0 := RJ.fr 0
    have d1 := RJ.cell 1
    have f1 := RJ.fr 1
    simp only [kA0, kA1, kA2] at d0 d1
    go_wp2
    refine bodyPost_ret (v := .agg #[.slice none 0 0, .int .i64 2]) (by simp [results, Tryd.results32, go_sem, d0, d1]) rfl ⟨.slice none 0 0, by rw [unhide EC], by rw [Pl.chgO, unhide EC]; exact Mem.ownN_nil _ _, ?_⟩
    exact (bJ.setCell (by show w.heap.size ≤ w.heap.size + 1; omega) _).setCell (by show w.heap.size ≤ w.heap.size + 1; omega) _
  have t0 : ¬ (8000 : Int) < (p.size : Int) := by omega
  have hz' : p.size ≤ 8000 := by omega
  have c0 := T0.cell 0
  simp only [kA0, kA1] at c0
  go_enter Tryd.func32, Tryd.ntmps32
  go_wp2_with fail
  refine (unhide HPL _ b0).mono ?_
  rintro e w1 ⟨rfl, b1⟩
  have bw1 := b0.trans (b1.mono b0.size)
  have T1 := T0.call b1
  have R1 := R0.call b1
  clear b0 b1 T0 R0 c0
  cases hP : Pl.plainB L
  · skip
    have EC : Hid (Pl.chgC L (⟨p, 1, ⟨#[]⟩, 0, 0⟩ : Pl.Nd) (Pl.remC L p) = 1) := hide (Pl.rem_form hz' (.inl hP))
    go_wp2_with fail
    refine (WIll3.ill_any 1 _).mono ?_
    rintro e wI ⟨rfl, bI⟩
    have bJ := bw1.trans (bI.mono bw1.size)
    have RJ := R1.call bI
    have d0 := RJ.cell 0
    have f0 := RJ.fr 0
    have d1 := RJ.cell 1
    have f1 := RJ.fr 1
    simp only [kA0, kA1, kA2] at d0 d1
    go_wp2
    refine bodyPost_ret (v := .agg #[.slice none 0 0, .int .i64 1]) (by simp [results, Tryd.results32, go_sem, d0, d1]) rfl ⟨.slice none 0 0, by rw [unhide EC], by rw [Pl.chgO, unhide EC]; exact Mem.ownN_nil _ _, ?_⟩
    exact (bJ.setCell (by show w.heap.size ≤ w.heap.size + 1; omega) _).setCell (by show w.heap.size ≤ w.heap.size + 1; omega) _
  go_wp2_with fail
  refine (unhide HPA _).mono ?_
  rintro e w2 ⟨rfl, b2⟩
  have bw2 := bw1.trans (b2.mono bw1.size)
  have T2 := T1.call b2
  have R2 := R1.call b2
  have c0 := T2.cell 0
  simp only [kA0, kA1] at c0
  clear bw1 b2 T1 R1
  cases hQ : Pl.wayB p
  · skip
    have EC : Hid (Pl.chgC L (⟨p, 1, ⟨#[]⟩, 0, 0⟩ : Pl.Nd) (Pl.remC L p) = 1) := hide (Pl.rem_form hz' (.inr hQ))
    go_wp2_with fail
    refine (WIll3.ill_any 1 _).mono ?_
    rintro e wI ⟨rfl, bI⟩
    have bJ := bw2.trans (bI.mono bw2.size)
    have RJ := R2.call bI
    have d0 := RJ.cell 0
    have f0 := RJ.fr 0
    have d1 := RJ.cell 1
    have f1 := RJ.fr 1
    simp only [kA0, kA1, kA2] at d0 d1
    go_wp2
    refine bodyPost_ret (v := .agg #[.slice none 0 0, .int .i64 1]) (by simp [results, Tryd.results32, go_sem, d0, d1]) rfl ⟨.slice none 0 0, by rw [unhide EC], by rw [Pl.chgO, unhide EC]; exact Mem.ownN_nil _ _, ?_⟩
    exact (bJ.setCell (by show w.heap.size ≤ w.heap.size + 1; omega) _).setCell (by show w.heap.size ≤ w.heap.size + 1; omega) _
  go_wp2_with fail
  refine (unhide HAT _ bw2).mono ?_
  rintro e w3 ⟨⟨r, rfl, hr⟩, b3⟩
  have bw3 := bw2.trans (b3.mono bw2.size)
  have T3 := T2.call b3
  have R3 := R2.call b3
  have c0 := T3.cell 0
  simp only [kA0, kA1] at c0
  clear bw2 b3 T2 R2
  by_cases h0 : r < 0
  · skip
    have EC : Hid (Pl.chgC L (⟨p, 1, ⟨#[]⟩, 0, 0⟩ : Pl.Nd) (Pl.remC L p) = 6) := hide (Pl.rem_none hz' hP hQ (at_none hr h0))
    go_wp2_with fail
    refine (WIll3.ill_any 6 _).mono ?_
    rintro e wI ⟨rfl, bI⟩
    have bJ := bw3.trans (bI.mono bw3.size)
    have RJ := R3.call bI
    have d0 := RJ.cell 0
    have f0 := RJ.fr 0
    have d1 := RJ.cell 1
    have f1 := RJ.fr 1
    simp only [kA0, kA1, kA2] at d0 d1
    go_wp2
    refine bodyPost_ret (v := .agg #[.slice none 0 0, .int .i64 6]) (by simp [results, Tryd.results32, go_sem, d0, d1]) rfl ⟨.slice none 0 0, by rw [unhide EC], by rw [Pl.chgO, unhide EC]; exact Mem.ownN_nil _ _, ?_⟩
    exact (bJ.setCell (by show w.heap.size ≤ w.heap.size + 1; omega) _).setCell (by show w.heap.size ≤ w.heap.size + 1; omega) _
  go_wp2_with fail
  refine (unhide HOV _ bw3).mono ?_
  rintro e w4 ⟨rfl, b4⟩
  have bw4 := bw3.trans (b4.mono bw3.size)
  have T4 := T3.call b4
  have R4 := R3.call b4
  have c0 := T4.cell 0
  simp only [kA0, kA1] at c0
  clear bw3 b4 T3 R3
  have hO : Pl.overL L p = Pl.overL L p := rfl
  generalize hOV : Pl.overL L p = o
  rw [hOV] at hO
  cases o
  rotate_left
  · skip
    have EC : Hid (Pl.chgC L (⟨p, 1, ⟨#[]⟩, 0, 0⟩ : Pl.Nd) (Pl.remC L p) = 10) := hide (Pl.rem_over hz' hP hQ (at_some hr (by omega)) hOV)
    go_wp2_with fail
    refine (WIll3.ill_any 10 _).mono ?_
    rintro e wI ⟨rfl, bI⟩
    have bJ := bw4.trans (bI.mono bw4.size)
    have RJ := R4.call bI
    have d0 := RJ.cell 0
    have f0 := RJ.fr 0
    have d1 := RJ.cell 1
    have f1 := RJ.fr 1
    simp only [kA0, kA1, kA2] at d0 d1
    go_wp2
    refine bodyPost_ret (v := .agg #[.slice none 0 0, .int .i64 10]) (by simp [results, Tryd.results32, go_sem, d0, d1]) rfl ⟨.slice none 0 0, by rw [unhide EC], by rw [Pl.chgO, unhide EC]; exact Mem.ownN_nil _ _, ?_⟩
    exact (bJ.setCell (by show w.heap.size ≤ w.heap.size + 1; omega) _).setCell (by show w.heap.size ≤ w.heap.size + 1; omega) _
  have EC : Hid (Pl.chgC L (⟨p, 1, ⟨#[]⟩, 0, 0⟩ : Pl.Nd) (Pl.remC L p) = 0) := hide (Pl.rem_ok hz' hP hQ (at_some hr (by omega)) hOV)
  go_wp2_with fail
  refine (unhide HCU _ bw4).mono ?_
  rintro e w5 ⟨v, rfl, own, b5⟩
  obtain ⟨a', cap', rfl⟩ := Mem.own_shape own
  have OW := hide own
  have HS := hide R4.lt
  have bw5 := bw4.trans (b5.mono bw4.size)
  have R5 := R4.call b5
  have d0 := R5.cell 0
  have f0 := R5.fr 0
  have d1 := R5.cell 1
  have f1 := R5.fr 1
  simp only [kA0, kA1, kA2] at d0 d1
  clear bw4 b5 T4 R4 own HCU
  go_wp2
  refine bodyPost_ret (v := .agg #[.slice a' (Pl.offL p L).length cap', .int .i64 0]) (by simp [results, Tryd.results32, go_sem, d0, d1]) rfl ⟨.slice a' (Pl.offL p L).length cap', by rw [unhide EC], ?_, ?_⟩
  · rw [Pl.chgO, unhide EC, if_pos rfl]
    exact Mem.ownN_mono (Mem.ownN_set (Mem.ownN_set (unhide OW) _ _ (unhide HS)) _ _ (unhide HS)) (by have := unhide HS; omega)
  · exact (bw5.setCell (by show w.heap.size ≤ w.heap.size + 1; omega) _).setCell (by show w.heap.size ≤ w.heap.size + 1; omega) _
end WPanic
end Go.Proofs.YtkfpfckmjgjanabDoor
