/- The walk of the specification's TreePut over any slice of nodes. -/
import Derived.Test.YtepmojmelcngeaaGreatDoorWPutR
import Derived.Test.YtepmojmelcngeaaGreatDoorWNode
import Derived.Test.YtepmojmelcngeaaGreatDoorWPutC
namespace Go.Proofs.YtepmojmelcngeaaGreatDoor
open Go.RowKit
namespace WPutD
set_option linter.unusedSimpArgs false in
set_option maxRecDepth 100000 in
set_option maxHeartbeats 1000000 in
theorem spec_any (a : Option Addr) (cap : Nat) (L : List Pl.Nd) (n : Pl.Nd) (w : World) (hA : WPutG.okA w a cap L) (hl : L.length ≤ 1048576) (hv : Mem.isNodes w a L) (hok : ∀ n ∈ L, n.path.size ≤ 1048576 ∧ n.data.size ≤ 1048576) (hn : n.path.size ≤ 1048576 ∧ n.data.size ≤ 1048576) :
    Calls Tryz.prog 9 #[.agg #[.slice a L.length cap], n.val] w fun e w' => ∃ v, e = .returned (.agg #[v, .int .i64 (Pl.putC L n)]) ∧ Mem.ownN w' w.heap.size v (Pl.putO L n) ∧ Below w.heap.size w w' := by
  have HRT := hide (fun W (b : Below w.heap.size w W) => WTreeS.right_tree a cap L W hl (Mem.nodes_call hv b) hok)
  have HNR := hide (fun W => WNode.spec_any n W hn.1 hn.2)
  have HAD := hide (fun W (b : Below w.heap.size w W) (h1 : Pl.treeB L = true) (h2 : Pl.nodeB n = true) => WPutC.add_any a cap L n W (by have := (WPutB.right_bounds h1).1; omega) (WPutG.okA_call hA b.size) (Mem.nodes_call hv b) (fun m hm => by have := (WPutB.right_bounds h1).2 m hm; omega) (by have := Pl.pathB_le (Pl.node_right h2).1; omega))
  have HC : Hid (Pl.putC L n = if Pl.treeB L = true ∧ Pl.nodeB n = true then Pl.addC L n else 1) := rfl
  have HO : Hid (Pl.putO L n = if Pl.treeB L = true ∧ Pl.nodeB n = true then Pl.addO L n else []) := rfl
  generalize Pl.putC L n = C at HC ⊢
  generalize Pl.putO L n = O at HO ⊢
  generalize Pl.addC L n = AC at HAD HC
  generalize Pl.addO L n = AO at HAD HO
  generalize Pl.treeB L = R1 at HRT HAD HC HO
  generalize Pl.nodeB n = R2 at HNR HAD HC HO
  obtain ⟨np, nk, nd, nt, nm⟩ := n
  simp only [Pl.Nd.val] at HNR HAD ⊢
  have H0 : WPutC.At w (((w.alloc (.cells #[.slice a L.length cap] 31)).alloc (.cells #[.string np, .int .i64 nk, .string nd, .int .i64 nt, .int .i64 nm] 36)).alloc (.cells #[.slice none 0 0, .int .i64 0] 33)) a cap L ⟨np, nk, nd, nt, nm⟩ :=
    ⟨(((Below.refl _ _).alloc (Nat.le_refl _) _).alloc (by simp) _).alloc (by simp; omega) _, ((Mem.Blk.new _ _ _).alloc _).alloc _, (by have h := (Mem.Blk.new (w.alloc (.cells #[.slice a L.length cap] 31)) #[.string np, .int .i64 nk, .string nd, .int .i64 nt, .int .i64 nm] 36).alloc (.cells #[.slice none 0 0, .int .i64 0] 33); rwa [show (w.alloc (.cells #[.slice a L.length cap] 31)).heap.size = w.heap.size + 1 by simp] at h), Mem.new_three _ _ _ _⟩
  have HA := hide H0
  clear H0 hv hok hn
  go_enter Tryz.func9, Tryz.ntmps9
  go_wp2_with fail
  refine (unhide HRT _ (unhide HA).bel).mono ?_
  rintro e w1 ⟨rfl, b1⟩
  have A1 := hide ((unhide HA).call b1)
  clear HA HRT b1
  have c1 := (unhide A1).one.cell 0
  have p0 := (unhide A1).two.cell 0
  have p1 := (unhide A1).two.cell 1
  have p2 := (unhide A1).two.cell 2
  have p3 := (unhide A1).two.cell 3
  have p4 := (unhide A1).two.cell 4
  simp only [Pl.Nd.cs, kA0, kA1, kA2] at c1 p0 p1 p2 p3 p4
  cases R1
  · have EC := hide (show C = 1 by rw [unhide HC, if_neg (by simp)])
    have EN := hide (show O = [] by rw [unhide HO, if_neg (by simp)])
    clear HC HO HAD HNR
    have A2 := A1
    clear A1
    go_wp2_with fail
    refine (WIll3.ill_any 1 _).mono ?_
    rintro e wI ⟨rfl, bI⟩
    have AI := hide ((unhide A2).call bI)
    clear bI A2
    have d0 := (unhide AI).three.cell 0
    have d1 := (unhide AI).three.cell 1
    have f0 := (unhide AI).three.fr 0
    have f1 := (unhide AI).three.fr 1
    simp only [kA0, kA1, kA2] at d0 d1
    go_wp2
    refine bodyPost_ret (v := .agg #[.slice none 0 0, .int .i64 1]) (by simp [results, Tryz.results9, go_sem, d0, d1]) rfl ⟨.slice none 0 0, by rw [unhide EC], by rw [unhide EN]; exact Mem.ownN_nil _ _, ?_⟩
    exact ((unhide AI).bel.setCell (by show w.heap.size ≤ w.heap.size + 1 + 1; omega) _).setCell (by show w.heap.size ≤ w.heap.size + 1 + 1; omega) _
  · go_wp2_with fail
    refine (unhide HNR _).mono ?_
    rintro e w2 ⟨rfl, b2⟩
    have A2 := hide ((unhide A1).call b2)
    clear A1 HNR b2 c1 p0 p1 p2 p3 p4
    cases R2
    · have EC := hide (show C = 1 by rw [unhide HC, if_neg (by simp)])
      have EN := hide (show O = [] by rw [unhide HO, if_neg (by simp)])
      clear HC HO HAD
      go_wp2_with fail
      refine (WIll3.ill_any 1 _).mono ?_
      rintro e wI ⟨rfl, bI⟩
      have AI := hide ((unhide A2).call bI)
      clear bI A2
      have d0 := (unhide AI).three.cell 0
      have d1 := (unhide AI).three.cell 1
      have f0 := (unhide AI).three.fr 0
      have f1 := (unhide AI).three.fr 1
      simp only [kA0, kA1, kA2] at d0 d1
      go_wp2
      refine bodyPost_ret (v := .agg #[.slice none 0 0, .int .i64 1]) (by simp [results, Tryz.results9, go_sem, d0, d1]) rfl ⟨.slice none 0 0, by rw [unhide EC], by rw [unhide EN]; exact Mem.ownN_nil _ _, ?_⟩
      exact ((unhide AI).bel.setCell (by show w.heap.size ≤ w.heap.size + 1 + 1; omega) _).setCell (by show w.heap.size ≤ w.heap.size + 1 + 1; omega) _
    · have EC := hide (show C = AC by rw [unhide HC, if_pos (by simp)])
      have EN := hide (show O = AO by rw [unhide HO, if_pos (by simp)])
      clear HC HO
      have c1 := (unhide A2).one.cell 0
      have p0 := (unhide A2).two.cell 0
      have p1 := (unhide A2).two.cell 1
      have p2 := (unhide A2).two.cell 2
      have p3 := (unhide A2).two.cell 3
      have p4 := (unhide A2).two.cell 4
      simp only [Pl.Nd.cs, kA0, kA1, kA2] at c1 p0 p1 p2 p3 p4
      go_wp2_with fail
      refine (unhide HAD _ (unhide A2).bel (by first | rfl | trivial) (by first | rfl | trivial)).mono ?_
      rintro e wI ⟨v, rfl, own, bI⟩
      obtain ⟨a', cap', hvv⟩ := Mem.own_shape own
      subst hvv
      have hs5 := (unhide A2).three.lt
      have AI := hide ((unhide A2).call bI)
      have OW := hide own
      clear own bI A2 HAD c1 p0 p1 p2 p3 p4
      have d0 := (unhide AI).three.cell 0
      have d1 := (unhide AI).three.cell 1
      have f0 := (unhide AI).three.fr 0
      have f1 := (unhide AI).three.fr 1
      simp only [kA0, kA1, kA2] at d0 d1
      go_wp2
      refine bodyPost_ret (v := .agg #[.slice a' AO.length cap', .int .i64 AC]) (by simp [results, Tryz.results9, go_sem, d0, d1]) rfl ⟨.slice a' AO.length cap', by rw [unhide EC], ?_, ?_⟩
      · rw [unhide EN]
        exact Mem.ownN_mono (Mem.ownN_set (Mem.ownN_set (unhide OW) _ _ (by show w.heap.size + 1 + 1 < _; omega)) _ _ (by show w.heap.size + 1 + 1 < _; omega)) (by omega)
      · exact ((unhide AI).bel.setCell (by show w.heap.size ≤ w.heap.size + 1 + 1; omega) _).setCell (by show w.heap.size ≤ w.heap.size + 1 + 1; omega) _
end WPutD
end Go.Proofs.YtepmojmelcngeaaGreatDoor
