/- The specification's PlainWrite (by genDS7.py). -/
import Derived.Test.YtnmdmhokdcmhcabGreatDoorWWriteP
import Derived.Test.YtnmdmhokdcmhcabGreatDoorPlainChg
import Derived.Test.YtnmdmhokdcmhcabGreatDoorWIll3
import Derived.Test.YtnmdmhokdcmhcabGreatDoorWNode
namespace Go.Proofs.YtnmdmhokdcmhcabGreatDoor
open Go.RowKit Go.Maps
namespace WPanic
set_option linter.unusedSimpArgs false in
set_option maxRecDepth 100000 in
set_option maxHeartbeats 2000000 in
theorem write_spec (g : Nat) (L : List Pl.Nd) (p d : ByteArray) (t : Int) (w : World) (hl : L.length ≤ 1048576) (hg : g < w.heap.size) (hv : Mem.isNodes w (some ⟨g, 0, none⟩) L) (hok : ∀ n ∈ L, n.path.size ≤ 1048576 ∧ n.data.size ≤ 1048576) (hp : p.size ≤ 1048576) (hd : d.size ≤ 1048576) :
    Calls Tryz.prog 14 #[.agg #[.slice (some ⟨g, 0, none⟩) L.length L.length], .string p, .string d, .int .i64 t] w fun e w' => ∃ v, e = .returned (.agg #[v, .int .i64 (Pl.chgC L (⟨p, 2, d, t, 0⟩ : Pl.Nd) (Pl.wrtC L (⟨p, 2, d, t, 0⟩ : Pl.Nd)))]) ∧ Mem.ownN w' w.heap.size v (Pl.chgO L (⟨p, 2, d, t, 0⟩ : Pl.Nd) (Pl.wrtC L (⟨p, 2, d, t, 0⟩ : Pl.Nd)) (Pl.putL L (⟨p, 2, d, t, 0⟩ : Pl.Nd))) ∧ Below w.heap.size w w' := by
  have b0 : Below w.heap.size w ((w.alloc (.cells #[.slice (some ⟨g, 0, none⟩) L.length L.length] 28)).alloc (.cells #[.slice none 0 0, .int .i64 0] 30)) := ((Below.refl _ _).alloc (Nat.le_refl _) _).alloc (by simp) _
  have b1 : Below w.heap.size w (((w.alloc (.cells #[.slice (some ⟨g, 0, none⟩) L.length L.length] 28)).alloc (.cells #[.slice none 0 0, .int .i64 0] 30)).alloc (.cells #[.string p, .int .i64 2, .string d, .int .i64 t, .int .i64 0] 43)) := b0.alloc (by simp; omega) _
  have R0 : Mem.Blk ((w.alloc (.cells #[.slice (some ⟨g, 0, none⟩) L.length L.length] 28)).alloc (.cells #[.slice none 0 0, .int .i64 0] 30)) (w.heap.size + 1) #[.slice none 0 0, .int .i64 0] 30 := Mem.new_two _ _ _
  have T1 : Mem.Blk (((w.alloc (.cells #[.slice (some ⟨g, 0, none⟩) L.length L.length] 28)).alloc (.cells #[.slice none 0 0, .int .i64 0] 30)).alloc (.cells #[.string p, .int .i64 2, .string d, .int .i64 t, .int .i64 0] 43)) w.heap.size #[.slice (some ⟨g, 0, none⟩) L.length L.length] 28 := ((Mem.Blk.new _ _ _).alloc _).alloc _
  have R1 : Mem.Blk (((w.alloc (.cells #[.slice (some ⟨g, 0, none⟩) L.length L.length] 28)).alloc (.cells #[.slice none 0 0, .int .i64 0] 30)).alloc (.cells #[.string p, .int .i64 2, .string d, .int .i64 t, .int .i64 0] 43)) (w.heap.size + 1) #[.slice none 0 0, .int .i64 0] 30 := R0.alloc _
  have N1 : Mem.Blk (((w.alloc (.cells #[.slice (some ⟨g, 0, none⟩) L.length L.length] 28)).alloc (.cells #[.slice none 0 0, .int .i64 0] 30)).alloc (.cells #[.string p, .int .i64 2, .string d, .int .i64 t, .int .i64 0] 43)) (w.heap.size + 1 + 1) #[.string p, .int .i64 2, .string d, .int .i64 t, .int .i64 0] 43 := by
    have h : Mem.Blk (((w.alloc (.cells #[.slice (some ⟨g, 0, none⟩) L.length L.length] 28)).alloc (.cells #[.slice none 0 0, .int .i64 0] 30)).alloc (.cells #[.string p, .int .i64 2, .string d, .int .i64 t, .int .i64 0] 43)) ((w.alloc (.cells #[.slice (some ⟨g, 0, none⟩) L.length L.length] 28)).alloc (.cells #[.slice none 0 0, .int .i64 0] 30)).heap.size #[.string p, .int .i64 2, .string d, .int .i64 t, .int .i64 0] 43 := Mem.Blk.new _ _ _
    rw [show ((w.alloc (.cells #[.slice (some ⟨g, 0, none⟩) L.length L.length] 28)).alloc (.cells #[.slice none 0 0, .int .i64 0] 30)).heap.size = w.heap.size + 1 + 1 by simp] at h
    exact h
  have HPL := hide (fun W (b : Below w.heap.size w W) => WPlainT.spec_any (some ⟨g, 0, none⟩) L.length L W hl (Mem.nodes_call hv b) hok)
  have HND := hide (fun W => WNode.spec_any (⟨p, 2, d, t, 0⟩ : Pl.Nd) W hp hd)
  have HAT := hide (fun W (b : Below w.heap.size w W) => WTreeS.at_any (some ⟨g, 0, none⟩) L.length L p W hl (Mem.nodes_call hv b))
  have HNV := hide (fun W (b : Below w.heap.size w W) => Mem.nodes_call hv b)
  have HAD := hide (fun W (b : Below w.heap.size w W) (h40 : L.length ≤ 1000) (h8 : ∀ m ∈ L, m.path.size ≤ 8000) (hn8 : p.size ≤ 8000) => WPutA.add_any g L (⟨p, 2, d, t, 0⟩ : Pl.Nd) W h40 (Nat.lt_of_lt_of_le hg b.size) (Mem.nodes_call hv b) h8 hn8)
  simp only [Pl.Nd.val] at HND HAD
  clear hv hok
  by_cases hz : 8000 < p.size
  · have t0 : (8000 : Int) < (p.size : Int) := by omega
    go_enter Tryz.func14, Tryz.ntmps14
    have EC : Hid (Pl.chgC L (⟨p, 2, d, t, 0⟩ : Pl.Nd) (Pl.wrtC L (⟨p, 2, d, t, 0⟩ : Pl.Nd)) = 2) := hide (Pl.chg_long (by simp; omega))
    go_wp2_with fail
    refine (WIll3.ill_any 2 _).mono ?_
    rintro e wI ⟨rfl, bI⟩
    have bJ := b0.trans (bI.mono b0.size)
    have RJ := R0.call bI
    have d0 := RJ.cell 0
    have f0 := RJ.fr 0
    have d1 := RJ.cell 1
    have f1 := RJ.fr 1
    simp only [List.getElem?_toArray, List.getElem?_cons_zero, List.getElem?_cons_succ] at d0 d1
    go_wp2
    refine bodyPost_ret (v := .agg #[.slice none 0 0, .int .i64 2]) (by simp [results, Tryz.results14, go_sem, d0, d1]) rfl ⟨.slice none 0 0, by rw [unhide EC], by rw [Pl.chgO, unhide EC]; exact Mem.ownN_nil _ _, ?_⟩
    exact (bJ.setCell (by show w.heap.size ≤ w.heap.size + 1; omega) _).setCell (by show w.heap.size ≤ w.heap.size + 1; omega) _
  have t0 : ¬ (8000 : Int) < (p.size : Int) := by omega
  have hz' : p.size ≤ 8000 := by omega
  by_cases hy : 8000 < d.size
  · have t1 : (8000 : Int) < (d.size : Int) := by omega
    go_enter Tryz.func14, Tryz.ntmps14
    have EC : Hid (Pl.chgC L (⟨p, 2, d, t, 0⟩ : Pl.Nd) (Pl.wrtC L (⟨p, 2, d, t, 0⟩ : Pl.Nd)) = 2) := hide (Pl.chg_long (by simp; omega))
    go_wp2_with fail
    refine (WIll3.ill_any 2 _).mono ?_
    rintro e wI ⟨rfl, bI⟩
    have bJ := b0.trans (bI.mono b0.size)
    have RJ := R0.call bI
    have d0 := RJ.cell 0
    have f0 := RJ.fr 0
    have d1 := RJ.cell 1
    have f1 := RJ.fr 1
    simp only [List.getElem?_toArray, List.getElem?_cons_zero, List.getElem?_cons_succ] at d0 d1
    go_wp2
    refine bodyPost_ret (v := .agg #[.slice none 0 0, .int .i64 2]) (by simp [results, Tryz.results14, go_sem, d0, d1]) rfl ⟨.slice none 0 0, by rw [unhide EC], by rw [Pl.chgO, unhide EC]; exact Mem.ownN_nil _ _, ?_⟩
    exact (bJ.setCell (by show w.heap.size ≤ w.heap.size + 1; omega) _).setCell (by show w.heap.size ≤ w.heap.size + 1; omega) _
  have t1 : ¬ (8000 : Int) < (d.size : Int) := by omega
  have hzz : ((⟨p, 2, d, t, 0⟩ : Pl.Nd)).path.size ≤ 8000 ∧ ((⟨p, 2, d, t, 0⟩ : Pl.Nd)).data.size ≤ 8000 := ⟨hz', by show d.size ≤ 8000; omega⟩
  clear hy
  have c0 := T1.cell 0
  simp only [List.getElem?_toArray, List.getElem?_cons_zero] at c0
  clear hz b0 R0
  go_enter Tryz.func14, Tryz.ntmps14
  go_wp2_with fail
  refine (unhide HPL _ b1).mono ?_
  rintro e w1 ⟨rfl, bx⟩
  have bw1 := b1.trans (bx.mono b1.size)
  have T2 := T1.call bx
  have R2 := R1.call bx
  have N2 := N1.call bx
  have n0 := N2.cell 0
  have n1 := N2.cell 1
  have n2 := N2.cell 2
  have n3 := N2.cell 3
  have n4 := N2.cell 4
  simp only [List.getElem?_toArray, List.getElem?_cons_zero, List.getElem?_cons_succ] at n0 n1 n2 n3 n4
  clear b1 bx T1 R1 N1 c0
  cases hP : Pl.plainB L
  · skip
    have EC : Hid (Pl.chgC L (⟨p, 2, d, t, 0⟩ : Pl.Nd) (Pl.wrtC L (⟨p, 2, d, t, 0⟩ : Pl.Nd)) = 1) := hide (Pl.chg_form hzz (.inl hP))
    go_wp2_with fail
    refine (WIll3.ill_any 1 _).mono ?_
    rintro e wI ⟨rfl, bI⟩
    have bJ := bw1.trans (bI.mono bw1.size)
    have RJ := R2.call bI
    have d0 := RJ.cell 0
    have f0 := RJ.fr 0
    have d1 := RJ.cell 1
    have f1 := RJ.fr 1
    simp only [List.getElem?_toArray, List.getElem?_cons_zero, List.getElem?_cons_succ] at d0 d1
    go_wp2
    refine bodyPost_ret (v := .agg #[.slice none 0 0, .int .i64 1]) (by simp [results, Tryz.results14, go_sem, d0, d1]) rfl ⟨.slice none 0 0, by rw [unhide EC], by rw [Pl.chgO, unhide EC]; exact Mem.ownN_nil _ _, ?_⟩
    exact (bJ.setCell (by show w.heap.size ≤ w.heap.size + 1; omega) _).setCell (by show w.heap.size ≤ w.heap.size + 1; omega) _
  go_wp2_with fail
  refine (unhide HND _).mono ?_
  rintro e w2 ⟨rfl, bx⟩
  have bw2 := bw1.trans (bx.mono bw1.size)
  have T3 := T2.call bx
  have R3 := R2.call bx
  have N3 := N2.call bx
  have c0 := T3.cell 0
  simp only [List.getElem?_toArray, List.getElem?_cons_zero] at c0
  clear bw1 bx T2 R2 N2 n0 n1 n2 n3 n4
  cases hQ : Pl.nodeB (⟨p, 2, d, t, 0⟩ : Pl.Nd)
  · skip
    have EC : Hid (Pl.chgC L (⟨p, 2, d, t, 0⟩ : Pl.Nd) (Pl.wrtC L (⟨p, 2, d, t, 0⟩ : Pl.Nd)) = 1) := hide (Pl.chg_form hzz (.inr hQ))
    go_wp2_with fail
    refine (WIll3.ill_any 1 _).mono ?_
    rintro e wI ⟨rfl, bI⟩
    have bJ := bw2.trans (bI.mono bw2.size)
    have RJ := R3.call bI
    have d0 := RJ.cell 0
    have f0 := RJ.fr 0
    have d1 := RJ.cell 1
    have f1 := RJ.fr 1
    simp only [List.getElem?_toArray, List.getElem?_cons_zero, List.getElem?_cons_succ] at d0 d1
    go_wp2
    refine bodyPost_ret (v := .agg #[.slice none 0 0, .int .i64 1]) (by simp [results, Tryz.results14, go_sem, d0, d1]) rfl ⟨.slice none 0 0, by rw [unhide EC], by rw [Pl.chgO, unhide EC]; exact Mem.ownN_nil _ _, ?_⟩
    exact (bJ.setCell (by show w.heap.size ≤ w.heap.size + 1; omega) _).setCell (by show w.heap.size ≤ w.heap.size + 1; omega) _
  go_wp2_with fail
  refine (unhide HAT _ bw2).mono ?_
  rintro e w3 ⟨⟨r, rfl, hr⟩, bx⟩
  have bw3 := bw2.trans (bx.mono bw2.size)
  have T4 := T3.call bx
  have R4 := R3.call bx
  have N4 := N3.call bx
  have c0 := T4.cell 0
  simp only [List.getElem?_toArray, List.getElem?_cons_zero] at c0
  have n0 := N4.cell 0
  have n1 := N4.cell 1
  have n2 := N4.cell 2
  have n3 := N4.cell 3
  have n4 := N4.cell 4
  simp only [List.getElem?_toArray, List.getElem?_cons_zero, List.getElem?_cons_succ] at n0 n1 n2 n3 n4
  clear bw2 bx T3 R3 N3
  have htr := Pl.plain_tree hP
  have had := hide (unhide HAD _ bw3 (by have := (Pl.tree_rise htr).2.2; omega) (fun m hm => by have := Pl.pathB_le ((Pl.tree_rise htr).2.1 m hm).1; omega) hz')
  clear HAD htr
  rcases hr.out with ⟨k, m, rfl, hk, h3⟩ | ⟨rfl, h3⟩
  · have hlk : k < L.length := (List.getElem?_eq_some_iff.1 hk).1
    have hix : 0 ≤ (k : Int) ∧ (k : Int) < (L.length : Int) := by omega
    have h0 : (0 : Int) ≤ (k : Int) := by omega
    obtain ⟨b', o', e, -, -, q1, -, -, -⟩ := unhide HNV _ bw3 k m hk
    cases e
    rw [Nat.zero_add] at q1
    by_cases hk1 : m.kind = 1
    · have EK : (L.find? (fun m => decide (m.path = p))).any (fun m => decide (m.kind = 1)) = true := by rw [h3]; simp [hk1]
      rw [hk1] at q1
      have EC : Hid (Pl.chgC L (⟨p, 2, d, t, 0⟩ : Pl.Nd) (Pl.wrtC L (⟨p, 2, d, t, 0⟩ : Pl.Nd)) = 11) := hide (by rw [Pl.chg_go hzz hP hQ, Pl.wrtC, if_pos EK])
      go_wp2_with fail
      refine (WIll3.ill_any 11 _).mono ?_
      rintro e wI ⟨rfl, bI⟩
      have bJ := bw3.trans (bI.mono bw3.size)
      have RJ := R4.call bI
      have d0 := RJ.cell 0
      have f0 := RJ.fr 0
      have d1 := RJ.cell 1
      have f1 := RJ.fr 1
      simp only [List.getElem?_toArray, List.getElem?_cons_zero, List.getElem?_cons_succ] at d0 d1
      go_wp2
      refine bodyPost_ret (v := .agg #[.slice none 0 0, .int .i64 11]) (by simp [results, Tryz.results14, go_sem, d0, d1]) rfl ⟨.slice none 0 0, by rw [unhide EC], by rw [Pl.chgO, unhide EC]; exact Mem.ownN_nil _ _, ?_⟩
      exact (bJ.setCell (by show w.heap.size ≤ w.heap.size + 1; omega) _).setCell (by show w.heap.size ≤ w.heap.size + 1; omega) _
    · have t2 : (m.kind == 1) = false := by simpa using hk1
      have EK : ¬ (L.find? (fun m => decide (m.path = p))).any (fun m => decide (m.kind = 1)) = true := by rw [h3]; simp [hk1]
      have EC : Hid (Pl.chgC L (⟨p, 2, d, t, 0⟩ : Pl.Nd) (Pl.wrtC L (⟨p, 2, d, t, 0⟩ : Pl.Nd)) = Pl.addC L (⟨p, 2, d, t, 0⟩ : Pl.Nd)) := by rw [Pl.chg_go hzz hP hQ, Pl.wrtC, if_neg EK]; exact rfl
      clear EK h3 hr hk hk1
      have EO : Hid (Pl.chgO L (⟨p, 2, d, t, 0⟩ : Pl.Nd) (Pl.wrtC L (⟨p, 2, d, t, 0⟩ : Pl.Nd)) (Pl.putL L (⟨p, 2, d, t, 0⟩ : Pl.Nd)) = Pl.addO L (⟨p, 2, d, t, 0⟩ : Pl.Nd)) := by rw [Pl.chgO, unhide EC]; exact rfl
      go_wp2_with fail
      refine (unhide had).mono ?_
      rintro e w5 ⟨v, rfl, own, b5⟩
      obtain ⟨a', cap', rfl⟩ := Mem.own_shape own
      have OW := hide own
      have HS := hide R4.lt
      have bw5 := bw3.trans (b5.mono bw3.size)
      have R5 := R4.call b5
      have d0 := R5.cell 0
      have f0 := R5.fr 0
      have d1 := R5.cell 1
      have f1 := R5.fr 1
      simp only [List.getElem?_toArray, List.getElem?_cons_zero, List.getElem?_cons_succ] at d0 d1
      clear bw3 b5 T4 R4 N4 own had
      generalize Pl.addC L (⟨p, 2, d, t, 0⟩ : Pl.Nd) = ca at EC
      generalize Pl.addO L (⟨p, 2, d, t, 0⟩ : Pl.Nd) = oa at EO OW
      go_wp2
      refine bodyPost_ret (v := .agg #[.slice a' oa.length cap', .int .i64 ca]) (by simp [results, Tryz.results14, go_sem, d0, d1]) rfl ⟨.slice a' oa.length cap', by rw [unhide EC], ?_, ?_⟩
      · rw [unhide EO]
        exact Mem.ownN_mono (Mem.ownN_set (Mem.ownN_set (unhide OW) _ _ (unhide HS)) _ _ (unhide HS)) (by have := unhide HS; omega)
      · exact (bw5.setCell (by show w.heap.size ≤ w.heap.size + 1; omega) _).setCell (by show w.heap.size ≤ w.heap.size + 1; omega) _
  · have EK : ¬ (L.find? (fun m => decide (m.path = p))).any (fun m => decide (m.kind = 1)) = true := by rw [h3]; simp
    have EC : Hid (Pl.chgC L (⟨p, 2, d, t, 0⟩ : Pl.Nd) (Pl.wrtC L (⟨p, 2, d, t, 0⟩ : Pl.Nd)) = Pl.addC L (⟨p, 2, d, t, 0⟩ : Pl.Nd)) := by rw [Pl.chg_go hzz hP hQ, Pl.wrtC, if_neg EK]; exact rfl
    clear EK h3 hr
    have EO : Hid (Pl.chgO L (⟨p, 2, d, t, 0⟩ : Pl.Nd) (Pl.wrtC L (⟨p, 2, d, t, 0⟩ : Pl.Nd)) (Pl.putL L (⟨p, 2, d, t, 0⟩ : Pl.Nd)) = Pl.addO L (⟨p, 2, d, t, 0⟩ : Pl.Nd)) := by rw [Pl.chgO, unhide EC]; exact rfl
    go_wp2_with fail
    refine (unhide had).mono ?_
    rintro e w5 ⟨v, rfl, own, b5⟩
    obtain ⟨a', cap', rfl⟩ := Mem.own_shape own
    have OW := hide own
    have HS := hide R4.lt
    have bw5 := bw3.trans (b5.mono bw3.size)
    have R5 := R4.call b5
    have d0 := R5.cell 0
    have f0 := R5.fr 0
    have d1 := R5.cell 1
    have f1 := R5.fr 1
    simp only [List.getElem?_toArray, List.getElem?_cons_zero, List.getElem?_cons_succ] at d0 d1
    clear bw3 b5 T4 R4 N4 own had
    generalize Pl.addC L (⟨p, 2, d, t, 0⟩ : Pl.Nd) = ca at EC
    generalize Pl.addO L (⟨p, 2, d, t, 0⟩ : Pl.Nd) = oa at EO OW
    go_wp2
    refine bodyPost_ret (v := .agg #[.slice a' oa.length cap', .int .i64 ca]) (by simp [results, Tryz.results14, go_sem, d0, d1]) rfl ⟨.slice a' oa.length cap', by rw [unhide EC], ?_, ?_⟩
    · rw [unhide EO]
      exact Mem.ownN_mono (Mem.ownN_set (Mem.ownN_set (unhide OW) _ _ (unhide HS)) _ _ (unhide HS)) (by have := unhide HS; omega)
    · exact (bw5.setCell (by show w.heap.size ≤ w.heap.size + 1; omega) _).setCell (by show w.heap.size ≤ w.heap.size + 1; omega) _
end WPanic
end Go.Proofs.YtnmdmhokdcmhcabGreatDoor
