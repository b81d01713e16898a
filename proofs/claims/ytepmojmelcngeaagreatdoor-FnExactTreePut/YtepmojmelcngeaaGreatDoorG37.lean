/- Several texts of one claim in one file: WPutB, WCodeA, WPutF. -/
import Derived.Test.YtepmojmelcngeaaGreatDoorWPutA
import Derived.Test.YtepmojmelcngeaaGreatDoorWPutR
import Derived.Test.YtepmojmelcngeaaGreatDoorWNode
import Derived.Test.YtepmojmelcngeaaGreatDoorG26
import Derived.Test.YtepmojmelcngeaaGreatDoorWPutI
import Derived.Test.YtepmojmelcngeaaGreatDoorG05
import Derived.Test.YtepmojmelcngeaaGreatDoorPlainPutP
import Derived.Test.YtepmojmelcngeaaGreatDoorPlainCut
/- The walk of the specification's TreePut. -/
namespace Go.Proofs.YtepmojmelcngeaaGreatDoor
open Go.RowKit
namespace WPutB
set_option linter.unusedSimpArgs false in
set_option maxRecDepth 100000 in
set_option maxHeartbeats 1000000 in
theorem spec_any (g : Nat) (L : List Pl.Nd) (n : Pl.Nd) (w : World) (hg : g < w.heap.size) (hl : L.length ≤ 1048576) (hv : Mem.isNodes w (some ⟨g, 0, none⟩) L) (hok : ∀ n ∈ L, n.path.size ≤ 1048576 ∧ n.data.size ≤ 1048576) (hn : n.path.size ≤ 1048576 ∧ n.data.size ≤ 1048576) :
    Calls Tryz.prog 9 #[.agg #[.slice (some ⟨g, 0, none⟩) L.length L.length], n.val] w fun e w' => ∃ v, e = .returned (.agg #[v, .int .i64 (Pl.putC L n)]) ∧ Mem.ownN w' w.heap.size v (Pl.putO L n) ∧ Below w.heap.size w w' := by
  have HRT := hide (fun W (b : Below w.heap.size w W) => WTreeS.right_tree (some ⟨g, 0, none⟩) L.length L W hl (Mem.nodes_call hv b) hok)
  have HNR := hide (fun W => WNode.spec_any n W hn.1 hn.2)
  have HAD := hide (fun W (b : Below w.heap.size w W) (h1 : Pl.treeB L = true) (h2 : Pl.nodeB n = true) => WPutA.add_any g L n W (by have := (right_bounds h1).1; omega) (Nat.lt_of_lt_of_le hg b.size) (Mem.nodes_call hv b) (fun m hm => by have := (right_bounds h1).2 m hm; omega) (by have := Pl.pathB_le (Pl.node_right h2).1; omega))
  have HC : Hid (Pl.putC L n = if Pl.treeB L = true ∧ Pl.nodeB n = true then Pl.addC L n else 1) := rfl
  have HO : Hid (Pl.putO L n = if Pl.treeB L = true ∧ Pl.nodeB n = true then Pl.addO L n else []) := rfl
  generalize Pl.putC L n = C at HC ⊢
  generalize Pl.putO L n = O at HO ⊢
  generalize Pl.addC L n = AC at HAD HC
  generalize Pl.addO L n = AO at HAD HO
  generalize Pl.treeB L = R1 at HRT HAD HC HO
  generalize Pl.nodeB n = R2 at HNR HAD HC HO
  obtain ⟨np, nk, nd, nt, nm⟩ := n
  simp only [Pl.Nd.val] at HNR HAD ⊢
  have H0 : WPutA.At w (((w.alloc (.cells #[.slice (some ⟨g, 0, none⟩) L.length L.length] 31)).alloc (.cells #[.string np, .int .i64 nk, .string nd, .int .i64 nt, .int .i64 nm] 36)).alloc (.cells #[.slice none 0 0, .int .i64 0] 33)) g L ⟨np, nk, nd, nt, nm⟩ :=
    ⟨(((Below.refl _ _).alloc (Nat.le_refl _) _).alloc (by simp) _).alloc (by simp; omega) _, ((Mem.Blk.new _ _ _).alloc _).alloc _, (by have h := (Mem.Blk.new (w.alloc (.cells #[.slice (some ⟨g, 0, none⟩) L.length L.length] 31)) #[.string np, .int .i64 nk, .string nd, .int .i64 nt, .int .i64 nm] 36).alloc (.cells #[.slice none 0 0, .int .i64 0] 33); rwa [show (w.alloc (.cells #[.slice (some ⟨g, 0, none⟩) L.length L.length] 31)).heap.size = w.heap.size + 1 by simp] at h), Mem.new_three _ _ _ _⟩
  have HA := hide H0
  clear H0 hv hok hn
  go_enter Tryz.func9, Tryz.ntmps9
  go_wp2_with fail
  refine (unhide HRT _ (unhide HA).bel).mono ?_
  rintro e w1 ⟨rfl, b1⟩
  have A1 := hide ((unhide HA).call b1)
  clear HA HRT b1
  have c1 := (unhide A1).one.cell 0
  have p0 := (unhide A1).two.cell 0
  have p1 := (unhide A1).two.cell 1
  have p2 := (unhide A1).two.cell 2
  have p3 := (unhide A1).two.cell 3
  have p4 := (unhide A1).two.cell 4
  simp only [Pl.Nd.cs, kA0, kA1, kA2] at c1 p0 p1 p2 p3 p4
  cases R1
  · have EC := hide (show C = 1 by rw [unhide HC, if_neg (by simp)])
    have EN := hide (show O = [] by rw [unhide HO, if_neg (by simp)])
    clear HC HO HAD HNR
    have A2 := A1
    clear A1
    go_wp2_with fail
    refine (WIll3.ill_any 1 _).mono ?_
    rintro e wI ⟨rfl, bI⟩
    have AI := hide ((unhide A2).call bI)
    clear bI A2
    have d0 := (unhide AI).three.cell 0
    have d1 := (unhide AI).three.cell 1
    have f0 := (unhide AI).three.fr 0
    have f1 := (unhide AI).three.fr 1
    simp only [kA0, kA1, kA2] at d0 d1
    go_wp2
    refine bodyPost_ret (v := .agg #[.slice none 0 0, .int .i64 1]) (by simp [results, Tryz.results9, go_sem, d0, d1]) rfl ⟨.slice none 0 0, by rw [unhide EC], by rw [unhide EN]; exact Mem.ownN_nil _ _, ?_⟩
    exact ((unhide AI).bel.setCell (by show w.heap.size ≤ w.heap.size + 1 + 1; omega) _).setCell (by show w.heap.size ≤ w.heap.size + 1 + 1; omega) _
  · go_wp2_with fail
    refine (unhide HNR _).mono ?_
    rintro e w2 ⟨rfl, b2⟩
    have A2 := hide ((unhide A1).call b2)
    clear A1 HNR b2 c1 p0 p1 p2 p3 p4
    cases R2
    · have EC := hide (show C = 1 by rw [unhide HC, if_neg (by simp)])
      have EN := hide (show O = [] by rw [unhide HO, if_neg (by simp)])
      clear HC HO HAD
      go_wp2_with fail
      refine (WIll3.ill_any 1 _).mono ?_
      rintro e wI ⟨rfl, bI⟩
      have AI := hide ((unhide A2).call bI)
      clear bI A2
      have d0 := (unhide AI).three.cell 0
      have d1 := (unhide AI).three.cell 1
      have f0 := (unhide AI).three.fr 0
      have f1 := (unhide AI).three.fr 1
      simp only [kA0, kA1, kA2] at d0 d1
      go_wp2
      refine bodyPost_ret (v := .agg #[.slice none 0 0, .int .i64 1]) (by simp [results, Tryz.results9, go_sem, d0, d1]) rfl ⟨.slice none 0 0, by rw [unhide EC], by rw [unhide EN]; exact Mem.ownN_nil _ _, ?_⟩
      exact ((unhide AI).bel.setCell (by show w.heap.size ≤ w.heap.size + 1 + 1; omega) _).setCell (by show w.heap.size ≤ w.heap.size + 1 + 1; omega) _
    · have EC := hide (show C = AC by rw [unhide HC, if_pos (by simp)])
      have EN := hide (show O = AO by rw [unhide HO, if_pos (by simp)])
      clear HC HO
      have c1 := (unhide A2).one.cell 0
      have p0 := (unhide A2).two.cell 0
      have p1 := (unhide A2).two.cell 1
      have p2 := (unhide A2).two.cell 2
      have p3 := (unhide A2).two.cell 3
      have p4 := (unhide A2).two.cell 4
      simp only [Pl.Nd.cs, kA0, kA1, kA2] at c1 p0 p1 p2 p3 p4
      go_wp2_with fail
      refine (unhide HAD _ (unhide A2).bel (by first | rfl | trivial) (by first | rfl | trivial)).mono ?_
      rintro e wI ⟨v, rfl, own, bI⟩
      obtain ⟨a', cap', hvv⟩ := Mem.own_shape own
      subst hvv
      have hs5 := (unhide A2).three.lt
      have AI := hide ((unhide A2).call bI)
      have OW := hide own
      clear own bI A2 HAD c1 p0 p1 p2 p3 p4
      have d0 := (unhide AI).three.cell 0
      have d1 := (unhide AI).three.cell 1
      have f0 := (unhide AI).three.fr 0
      have f1 := (unhide AI).three.fr 1
      simp only [kA0, kA1, kA2] at d0 d1
      go_wp2
      refine bodyPost_ret (v := .agg #[.slice a' AO.length cap', .int .i64 AC]) (by simp [results, Tryz.results9, go_sem, d0, d1]) rfl ⟨.slice a' AO.length cap', by rw [unhide EC], ?_, ?_⟩
      · rw [unhide EN]
        exact Mem.ownN_mono (Mem.ownN_set (Mem.ownN_set (unhide OW) _ _ (by show w.heap.size + 1 + 1 < _; omega)) _ _ (by show w.heap.size + 1 + 1 < _; omega)) (by omega)
      · exact ((unhide AI).bel.setCell (by show w.heap.size ≤ w.heap.size + 1 + 1; omega) _).setCell (by show w.heap.size ≤ w.heap.size + 1 + 1; omega) _
end WPutB
end Go.Proofs.YtepmojmelcngeaaGreatDoor

/- The code of any of the six errors, and of none. -/
namespace Go.Proofs.YtepmojmelcngeaaGreatDoor
open Go.RowKit
namespace WCutF
theorem code_any (x : Nat → Addr) (w : World) (h : WIs.Six w x) (i : Nat) (hi : i < 6) :
    Calls Tryz.prog 44 #[.iface 207 (.pointer (some (x i)))] w fun e w' => e = .returned (.int .i64 (WIs.codeOf i)) ∧ w' = w := by
  obtain rfl | rfl | rfl | rfl | rfl | rfl : i = 0 ∨ i = 1 ∨ i = 2 ∨ i = 3 ∨ i = 4 ∨ i = 5 := by omega
  · exact WIs.code0 x w h
  · exact WIs.code1 x w h
  · exact WIs.code2 x w h
  · exact WIs.code3 x w h
  · exact WIs.code4 x w h
  · exact WIs.code5 x w h
theorem code_pos (i : Nat) : WIs.codeOf i ≠ 0 := by
  unfold WIs.codeOf
  split <;> decide
set_option maxRecDepth 100000 in
theorem code_nil (w : World) : Calls Tryz.prog 44 #[.nilIface] w fun e w' => e = .returned (.int .i64 0) ∧ w' = w := by
  go_enter Tryz.func44, Tryz.ntmps44
  go_wp2
  go_ret
  exact ⟨rfl, rfl⟩
end WCutF
end Go.Proofs.YtepmojmelcngeaaGreatDoor

/- The walk of the program's TreePut. -/
namespace Go.Proofs.YtepmojmelcngeaaGreatDoor
open Go.RowKit Go.Maps
namespace Pl
theorem putO_max {L : List Nd} {n : Nd} (h : L.length ≤ 1048576) : (putO L n).length ≤ 1048576 := by
  by_cases ht : treeB L = true
  · have := putO_len L n
    have := (tree_rise ht).2.2
    omega
  · rw [putO, if_neg (fun h => ht h.1)]
    exact Nat.zero_le _
end Pl
namespace WPutF
set_option linter.unusedSimpArgs false in
set_option maxRecDepth 100000 in
set_option maxHeartbeats 2000000 in
theorem impl_any (a : Option Addr) (cap : Nat) (L : List Pl.Nd) (n : Pl.Nd) (w : World) (hl : L.length ≤ 1048576) (hv : Mem.isNodes w a L) (hok : ∀ n ∈ L, n.path.size ≤ 1048576 ∧ n.data.size ≤ 1048576) (hn : n.path.size ≤ 1048576 ∧ n.data.size ≤ 1048576) (x : Nat → Addr) (hE : WIs.Six w x) :
    Calls Tryz.prog 12 #[.agg #[.slice a L.length cap], n.val] w fun e w' => ∃ v, e = .returned (.agg #[v, .int .i64 (Pl.putC L n)]) ∧ Mem.ownN w' w.heap.size v (Pl.putO L n) ∧ Below w.heap.size w w' := by
  have HC : Hid (Pl.putC L n = if Pl.treeB L = true ∧ Pl.nodeB n = true then Pl.addC L n else 1) := rfl
  have HO : Hid (Pl.putO L n = if Pl.treeB L = true ∧ Pl.nodeB n = true then Pl.addO L n else []) := rfl
  have HA : Hid (Pl.addO L n = if Pl.addC L n = 0 then Pl.putL L n else []) := rfl
  have HNW := hide (fun W (b : Below w.heap.size w W) => WNodesI.nodes_any a cap L W hl (Mem.nodes_call hv b) hok _ _ _ _ _ _ (hE.call b).errs)
  have HPUT := hide (fun B W (b : Below w.heap.size w W) (hown : W.ownsMap Tryz.prog 9 MapN.elem B 40 (MapN.mapOf L)) (ht : Pl.treeB L = true) => WPutI.put_any B L n W hown (Pl.tree_apart' ht) (Pl.tree_rise ht).1 (Pl.tree_rise ht).2.1 (Pl.tree_rise ht).2.2 hn x (hE.call b))
  have HRIS := hide (fun B D' W (ht : Pl.treeB L = true) (hnb : Pl.nodeB n = true) (hO : W.ownsMap Tryz.prog 9 MapN.elem B 41 D') (hR : MapN.Reads D' (L.filter (fun m => !decide (m.path = n.path)) ++ [n])) =>
    WRising.any B 41 _ (Pl.putL L n) D' W hO (by omega) hR (Pl.apart_put (Pl.tree_apart' ht)) (Pl.put_ok (fun m hm => ((Pl.tree_rise ht).2.1 m hm).1) (Pl.node_right hnb).1 (Pl.tree_rise ht).1).2
      (Pl.put_ok (fun m hm => ((Pl.tree_rise ht).2.1 m hm).1) (Pl.node_right hnb).1 (Pl.tree_rise ht).1).1
      (fun m hm => (Pl.mem_put hm).elim (fun h => (Pl.tree_rise ht).2.1 m h) (fun h => by rw [h]; exact ⟨(Pl.node_right hnb).1, hn.2⟩)))
  have HE := hide hE
  clear hv hok hE
  generalize Pl.putC L n = c at HC ⊢
  generalize Pl.putO L n = O at HO ⊢
  generalize Pl.addO L n = AO at HO HA
  obtain ⟨np, nk, nd, nt, nm⟩ := n
  simp only [Pl.Nd.val] at HPUT ⊢
  have b0 : Below w.heap.size w (((w.alloc (.cells #[.slice a L.length cap] 31)).alloc (.cells #[.string np, .int .i64 nk, .string nd, .int .i64 nt, .int .i64 nm] 36)).alloc (.cells #[.slice none 0 0, .int .i64 0] 33)) := (((Below.refl _ _).alloc (Nat.le_refl _) _).alloc (by simp) _).alloc (by simp; omega) _
  have hs0 : (((w.alloc (.cells #[.slice a L.length cap] 31)).alloc (.cells #[.string np, .int .i64 nk, .string nd, .int .i64 nt, .int .i64 nm] 36)).alloc (.cells #[.slice none 0 0, .int .i64 0] 33)).heap.size = w.heap.size + 3 := by simp
  have V1 : Mem.Blk (((w.alloc (.cells #[.slice a L.length cap] 31)).alloc (.cells #[.string np, .int .i64 nk, .string nd, .int .i64 nt, .int .i64 nm] 36)).alloc (.cells #[.slice none 0 0, .int .i64 0] 33)) (w.heap.size + 1) #[.string np, .int .i64 nk, .string nd, .int .i64 nt, .int .i64 nm] 36 := Mem.Blk.alloc (Mem.new_two _ _ _) _
  have V2 : Mem.Blk (((w.alloc (.cells #[.slice a L.length cap] 31)).alloc (.cells #[.string np, .int .i64 nk, .string nd, .int .i64 nt, .int .i64 nm] 36)).alloc (.cells #[.slice none 0 0, .int .i64 0] 33)) (w.heap.size + 2) #[.slice none 0 0, .int .i64 0] 33 := by
    have := Mem.Blk.new ((w.alloc (.cells #[.slice a L.length cap] 31)).alloc (.cells #[.string np, .int .i64 nk, .string nd, .int .i64 nt, .int .i64 nm] 36)) #[.slice none 0 0, .int .i64 0] 33
    simpa using this
  have hnw := hide (unhide HNW _ b0)
  clear HNW
  go_enter Tryz.func12, Tryz.ntmps12
  go_wp2_with fail
  refine (unhide hnw).mono ?_
  rintro e w1 ⟨h1, b1⟩
  have bw1 := b0.trans (b1.mono b0.size)
  have N1 := V1.call b1
  have O1 := V2.call b1
  clear hnw b1 b0 V1 V2
  rcases h1 with ⟨ht, B, rfl, hB, hown⟩ | ⟨ht, rfl⟩
  · rw [hs0] at hB
    have hput := hide (unhide HPUT B w1 bw1 hown ht)
    have hris := hide (fun D' W => unhide HRIS B D' W ht)
    have HT := hide ht
    clear HPUT HRIS hown ht hs0
    have p0 := N1.cell 0
    have p1 := N1.cell 1
    have p2 := N1.cell 2
    have p3 := N1.cell 3
    have p4 := N1.cell 4
    simp only [kA0, kA1, kA2] at p0 p1 p2 p3 p4
    clear N1
    go_wp2_with fail
    refine (unhide hput).mono ?_
    rintro e w2 ⟨h2⟩
    clear hput p0 p1 p2 p3 p4
    rcases h2 with ⟨i, hi, rfl, hc, b2⟩ | ⟨rfl, hnb, hc, ⟨D', hO2, hR2⟩, hg2⟩
    · have bw2 := bw1.trans (b2.mono bw1.size)
      have O2 := O1.call b2
      have EC := hide (show c = WIs.codeOf i ∧ O = [] by
        rw [hc, unhide HC, unhide HO]
        by_cases hnb : Pl.nodeB ⟨np, nk, nd, nt, nm⟩ = true
        · rw [if_pos ⟨unhide HT, hnb⟩, if_pos hnb, if_pos ⟨unhide HT, hnb⟩, unhide HA]
          rw [if_pos hnb] at hc
          exact ⟨rfl, if_neg (by rw [← hc]; exact WCutF.code_pos i)⟩
        · rw [if_neg (fun h => hnb h.2), if_neg hnb, if_neg (fun h => hnb h.2)]
          exact ⟨rfl, rfl⟩)
      have hcd := hide (WCutF.code_any x w2 ((unhide HE).call bw2) i hi)
      generalize WIs.codeOf i = c2 at hcd EC
      clear hc HC HO HA HT hris O1 bw1 b2 HE hi
      go_wp2_with fail
      refine (unhide hcd).mono ?_
      rintro e w3 ⟨rfl, rfl⟩
      have d0 := O2.cell 0
      have d1 := O2.cell 1
      have f0 := O2.fr 0
      have f1 := O2.fr 1
      simp only [kA0, kA1, kA2] at d0 d1
      clear O2 hcd
      go_wp2
      refine bodyPost_ret (v := .agg #[.slice none 0 0, .int .i64 c2]) (by simp [results, Tryz.results12, go_sem, d0, d1]) rfl ⟨.slice none 0 0, by rw [(unhide EC).1], by rw [(unhide EC).2]; exact Mem.ownN_nil _ _, ?_⟩
      exact (bw2.setCell (by show w.heap.size ≤ w.heap.size + 2; omega) _).setCell (by show w.heap.size ≤ w.heap.size + 2; omega) _
    · have b3 := bw1.grown hg2 bw1.size (fun q hq => by cases hq; omega)
      have O2 := O1.grown hg2 (fun e => by cases e; omega)
      have EC := hide (show c = 0 ∧ O = Pl.putL L ⟨np, nk, nd, nt, nm⟩ by
        rw [unhide HC, unhide HO, if_pos ⟨unhide HT, hnb⟩, if_pos ⟨unhide HT, hnb⟩, unhide HA, if_pos hc]
        exact ⟨hc, rfl⟩)
      have hrs := hide (unhide hris D' w2 hnb hO2 hR2)
      clear hris HC HO HA HT O1 bw1 hO2 hR2 hc hg2 HE hnb
      generalize Pl.putL L ⟨np, nk, nd, nt, nm⟩ = P at EC hrs
      go_wp2_with fail
      refine (unhide hrs).mono ?_
      rintro e w3 ⟨v, rfl, own, b4⟩
      obtain ⟨a', cap', rfl⟩ := Mem.own_shape own
      have b5 := b3.trans (b4.mono b3.size)
      have O3 := O2.call b4
      have HS : w.heap.size + 2 < w2.heap.size := O2.lt
      have OW := hide own
      have d0 := O3.cell 0
      have d1 := O3.cell 1
      have f0 := O3.fr 0
      have f1 := O3.fr 1
      simp only [kA0, kA1, kA2] at d0 d1
      clear hrs O2 O3 own b3 b4
      go_wp2
      refine bodyPost_ret (v := .agg #[.slice a' P.length cap', .int .i64 0]) (by simp [results, Tryz.results12, go_sem, d0, d1]) rfl ⟨.slice a' P.length cap', by rw [(unhide EC).1], ?_, ?_⟩
      · rw [(unhide EC).2]
        exact Mem.ownN_mono (Mem.ownN_set (Mem.ownN_set (unhide OW) _ _ HS) _ _ HS) (by omega)
      · exact (b5.setCell (by show w.heap.size ≤ w.heap.size + 2; omega) _).setCell (by show w.heap.size ≤ w.heap.size + 2; omega) _
  · have EC := hide (show c = 1 ∧ O = [] by
      rw [unhide HC, unhide HO, if_neg (by rw [ht]; simp), if_neg (by rw [ht]; simp)]
      exact ⟨rfl, rfl⟩)
    have hcd := hide (WCutF.code_any x w1 ((unhide HE).call bw1) 1 (by omega))
    rw [show WIs.codeOf 1 = 1 from rfl] at hcd
    clear HC HO HA HPUT HRIS HE ht hs0 N1
    go_wp2_with fail
    refine (unhide hcd).mono ?_
    rintro e w3 ⟨rfl, rfl⟩
    have d0 := O1.cell 0
    have d1 := O1.cell 1
    have f0 := O1.fr 0
    have f1 := O1.fr 1
    simp only [kA0, kA1, kA2] at d0 d1
    clear O1 hcd
    go_wp2
    refine bodyPost_ret (v := .agg #[.slice none 0 0, .int .i64 1]) (by simp [results, Tryz.results12, go_sem, d0, d1]) rfl ⟨.slice none 0 0, by rw [(unhide EC).1], by rw [(unhide EC).2]; exact Mem.ownN_nil _ _, ?_⟩
    exact (bw1.setCell (by show w.heap.size ≤ w.heap.size + 2; omega) _).setCell (by show w.heap.size ≤ w.heap.size + 2; omega) _
end WPutF
end Go.Proofs.YtepmojmelcngeaaGreatDoor

