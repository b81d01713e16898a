/- Several texts of one claim in one file: WPutB, WCutI, WCutF, WPutF. -/
import Derived.Test.YtibmflhelgedeaaGreatDoorWPutA
import Derived.Test.YtibmflhelgedeaaGreatDoorG22
import Derived.Test.YtibmflhelgedeaaGreatDoorG03
import Derived.Test.YtibmflhelgedeaaGreatDoorG18
import Derived.Test.YtibmflhelgedeaaGreatDoorG07
import Derived.Test.YtibmflhelgedeaaGreatDoorG31
import Derived.Test.YtibmflhelgedeaaGreatDoorWCodeA
import Derived.Test.YtibmflhelgedeaaGreatDoorWPutI
import Derived.Test.YtibmflhelgedeaaGreatDoorPlainNames
import Derived.Test.YtibmflhelgedeaaGreatDoorPlainPutP
/- The walk of the specification's TreePut. -/
namespace Go.Proofs.YtibmflhelgedeaaGreatDoor
open Go.RowKit
namespace WPutB
set_option linter.unusedSimpArgs false in
set_option maxRecDepth 100000 in
set_option maxHeartbeats 1000000 in
theorem spec_any (g : Nat) (L : List Pl.Nd) (n : Pl.Nd) (w : World) (hg : g < w.heap.size) (hl : L.length ≤ 1048576) (hv : Mem.isNodes w (some ⟨g, 0, none⟩) L) (hok : ∀ n ∈ L, n.path.size ≤ 1048576 ∧ n.data.size ≤ 1048576) (hn : n.path.size ≤ 1048576 ∧ n.data.size ≤ 1048576) :
    Calls Tryz.prog 17 #[.agg #[.slice (some ⟨g, 0, none⟩) L.length L.length], n.val] w fun e w' => ∃ v, e = .returned (.agg #[v, .int .i64 (Pl.putC L n)]) ∧ Mem.ownN w' w.heap.size v (Pl.putO L n) ∧ Below w.heap.size w w' := by
  have HRT := hide (fun W (b : Below w.heap.size w W) => WTreeS.right_tree (some ⟨g, 0, none⟩) L.length L W hl (Mem.nodes_call hv b) hok)
  have HNR := hide (fun W => WNode.spec_any n W hn.1 hn.2)
  have HAD := hide (fun W (b : Below w.heap.size w W) (h1 : Pl.treeB L = true) (h2 : Pl.nodeB n = true) => WPutA.add_any g L n W (by have := (right_bounds h1).1; omega) (Nat.lt_of_lt_of_le hg b.size) (Mem.nodes_call hv b) (fun m hm => by have := (right_bounds h1).2 m hm; omega) (by have := Pl.pathB_le (Pl.node_right h2).1; omega))
  have HC : Hid (Pl.putC L n = if Pl.treeB L = true ∧ Pl.nodeB n = true then Pl.addC L n else 1) := rfl
  have HO : Hid (Pl.putO L n = if Pl.treeB L = true ∧ Pl.nodeB n = true then Pl.addO L n else []) := rfl
  generalize Pl.putC L n = C at HC ⊢
  generalize Pl.putO L n = O at HO ⊢
  generalize Pl.addC L n = AC at HAD HC
  generalize Pl.addO L n = AO at HAD HO
  generalize Pl.treeB L = R1 at HRT HAD HC HO
  generalize Pl.nodeB n = R2 at HNR HAD HC HO
  obtain ⟨np, nk, nd, nt, nm⟩ := n
  simp only [Pl.Nd.val] at HNR HAD ⊢
  have H0 : WPutA.At w (((w.alloc (.cells #[.slice (some ⟨g, 0, none⟩) L.length L.length] 25)).alloc (.cells #[.string np, .int .i64 nk, .string nd, .int .i64 nt, .int .i64 nm] 27)).alloc (.cells #[.slice none 0 0, .int .i64 0] 31)) g L ⟨np, nk, nd, nt, nm⟩ :=
    ⟨(((Below.refl _ _).alloc (Nat.le_refl _) _).alloc (by simp) _).alloc (by simp; omega) _, ((Mem.Blk.new _ _ _).alloc _).alloc _, (by have h := (Mem.Blk.new (w.alloc (.cells #[.slice (some ⟨g, 0, none⟩) L.length L.length] 25)) #[.string np, .int .i64 nk, .string nd, .int .i64 nt, .int .i64 nm] 27).alloc (.cells #[.slice none 0 0, .int .i64 0] 31); rwa [show (w.alloc (.cells #[.slice (some ⟨g, 0, none⟩) L.length L.length] 25)).heap.size = w.heap.size + 1 by simp] at h), Mem.new_three _ _ _ _⟩
  have HA := hide H0
  clear H0 hv hok hn
  go_enter Tryz.func17, Tryz.ntmps17
  go_wp2_with fail
  refine (unhide HRT _ (unhide HA).bel).mono ?_
  rintro e w1 ⟨rfl, b1⟩
  have A1 := hide ((unhide HA).call b1)
  clear HA HRT b1
  have c1 := (unhide A1).one.cell 0
  have p0 := (unhide A1).two.cell 0
  have p1 := (unhide A1).two.cell 1
  have p2 := (unhide A1).two.cell 2
  have p3 := (unhide A1).two.cell 3
  have p4 := (unhide A1).two.cell 4
  simp only [Pl.Nd.cs, kA0, kA1, kA2] at c1 p0 p1 p2 p3 p4
  cases R1
  · have EC := hide (show C = 1 by rw [unhide HC, if_neg (by simp)])
    have EN := hide (show O = [] by rw [unhide HO, if_neg (by simp)])
    clear HC HO HAD HNR
    have A2 := A1
    clear A1
    go_wp2_with fail
    refine (WIll3.ill_any 1 _).mono ?_
    rintro e wI ⟨rfl, bI⟩
    have AI := hide ((unhide A2).call bI)
    clear bI A2
    have d0 := (unhide AI).three.cell 0
    have d1 := (unhide AI).three.cell 1
    have f0 := (unhide AI).three.fr 0
    have f1 := (unhide AI).three.fr 1
    simp only [kA0, kA1, kA2] at d0 d1
    go_wp2
    refine bodyPost_ret (v := .agg #[.slice none 0 0, .int .i64 1]) (by simp [results, Tryz.results17, go_sem, d0, d1]) rfl ⟨.slice none 0 0, by rw [unhide EC], by rw [unhide EN]; exact Mem.ownN_nil _ _, ?_⟩
    exact ((unhide AI).bel.setCell (by show w.heap.size ≤ w.heap.size + 1 + 1; omega) _).setCell (by show w.heap.size ≤ w.heap.size + 1 + 1; omega) _
  · go_wp2_with fail
    refine (unhide HNR _).mono ?_
    rintro e w2 ⟨rfl, b2⟩
    have A2 := hide ((unhide A1).call b2)
    clear A1 HNR b2 c1 p0 p1 p2 p3 p4
    cases R2
    · have EC := hide (show C = 1 by rw [unhide HC, if_neg (by simp)])
      have EN := hide (show O = [] by rw [unhide HO, if_neg (by simp)])
      clear HC HO HAD
      go_wp2_with fail
      refine (WIll3.ill_any 1 _).mono ?_
      rintro e wI ⟨rfl, bI⟩
      have AI := hide ((unhide A2).call bI)
      clear bI A2
      have d0 := (unhide AI).three.cell 0
      have d1 := (unhide AI).three.cell 1
      have f0 := (unhide AI).three.fr 0
      have f1 := (unhide AI).three.fr 1
      simp only [kA0, kA1, kA2] at d0 d1
      go_wp2
      refine bodyPost_ret (v := .agg #[.slice none 0 0, .int .i64 1]) (by simp [results, Tryz.results17, go_sem, d0, d1]) rfl ⟨.slice none 0 0, by rw [unhide EC], by rw [unhide EN]; exact Mem.ownN_nil _ _, ?_⟩
      exact ((unhide AI).bel.setCell (by show w.heap.size ≤ w.heap.size + 1 + 1; omega) _).setCell (by show w.heap.size ≤ w.heap.size + 1 + 1; omega) _
    · have EC := hide (show C = AC by rw [unhide HC, if_pos (by simp)])
      have EN := hide (show O = AO by rw [unhide HO, if_pos (by simp)])
      clear HC HO
      have c1 := (unhide A2).one.cell 0
      have p0 := (unhide A2).two.cell 0
      have p1 := (unhide A2).two.cell 1
      have p2 := (unhide A2).two.cell 2
      have p3 := (unhide A2).two.cell 3
      have p4 := (unhide A2).two.cell 4
      simp only [Pl.Nd.cs, kA0, kA1, kA2] at c1 p0 p1 p2 p3 p4
      go_wp2_with fail
      refine (unhide HAD _ (unhide A2).bel (by first | rfl | trivial) (by first | rfl | trivial)).mono ?_
      rintro e wI ⟨v, rfl, own, bI⟩
      obtain ⟨a', cap', hvv⟩ := Mem.own_shape own
      subst hvv
      have hs5 := (unhide A2).three.lt
      have AI := hide ((unhide A2).call bI)
      have OW := hide own
      clear own bI A2 HAD c1 p0 p1 p2 p3 p4
      have d0 := (unhide AI).three.cell 0
      have d1 := (unhide AI).three.cell 1
      have f0 := (unhide AI).three.fr 0
      have f1 := (unhide AI).three.fr 1
      simp only [kA0, kA1, kA2] at d0 d1
      go_wp2
      refine bodyPost_ret (v := .agg #[.slice a' AO.length cap', .int .i64 AC]) (by simp [results, Tryz.results17, go_sem, d0, d1]) rfl ⟨.slice a' AO.length cap', by rw [unhide EC], ?_, ?_⟩
      · rw [unhide EN]
        exact Mem.ownN_mono (Mem.ownN_set (Mem.ownN_set (unhide OW) _ _ (by show w.heap.size + 1 + 1 < _; omega)) _ _ (by show w.heap.size + 1 + 1 < _; omega)) (by omega)
      · exact ((unhide AI).bel.setCell (by show w.heap.size ≤ w.heap.size + 1 + 1; omega) _).setCell (by show w.heap.size ≤ w.heap.size + 1 + 1; omega) _
end WPutB
end Go.Proofs.YtibmflhelgedeaaGreatDoor

/- The walk of cut: a path goes from the map, and all below it. -/
namespace Go.Proofs.YtibmflhelgedeaaGreatDoor
open Go.RowKit Go.Maps
namespace MapN
theorem reads_del {D : DataW Unit} {C : List Pl.Nd} (h : Reads D C) (q : ByteArray) : Reads (D.del (key q)) (C.filter (fun n => !decide (n.path = q))) := by
  refine ⟨fun n hn => ?_, fun p c hc => ?_⟩
  · rw [List.mem_filter] at hn
    have hne : n.path ≠ q := by simpa using hn.2
    rw [has_del_other (key_ne hne)]
    exact h.has n hn.1
  · by_cases e : p = q
    · exfalso
      subst e
      have a : ∀ z, dat c = z := fun z => by rw [← hc z]; exact atKey_del_same z
      have a2 := dat_inj (a (dat ⟨p, c.kind + 1, p, 0, 0⟩))
      have a3 := congrArg Pl.Nd.kind a2
      simp only at a3
      omega
    · have := h.ent p c (fun z => by rw [← hc z]; exact (atKey_del_other (key_ne e) z).symm)
      exact ⟨List.mem_filter.2 ⟨this.1, by rw [← this.2]; simpa using e⟩, this.2⟩
end MapN
namespace Pl
theorem left_step (L M : List Nd) {k : Nat} {m : Nd} (h : M[k]? = some m) : (L.filter (fun n => (M.take k).all (fun x => !decide (n.path = x.path)))).filter (fun n => !decide (n.path = m.path)) = L.filter (fun n => (M.take (k + 1)).all (fun x => !decide (n.path = x.path))) := by
  have h1 := List.getElem?_eq_some_iff.1 h
  rw [List.filter_filter]
  apply List.filter_congr
  intro n _
  rw [List.take_succ_eq_append_getElem h1.1, h1.2, List.all_append]
  simp [Bool.and_comm]
theorem left_end {L M : List Nd} {p : ByteArray} (hM : M = L.filter (fun n => belowP n.path p)) : (L.filter (fun n => M.all (fun x => !decide (n.path = x.path)))).filter (fun n => !decide (n.path = p)) = L.filter (fun n => !belowP n.path p && !decide (n.path = p)) := by
  rw [List.filter_filter]
  apply List.filter_congr
  intro n hn
  rw [Bool.and_comm]
  congr 1
  cases k : belowP n.path p
  · rw [Bool.not_false, List.all_eq_true]
    intro x hx
    rw [hM, List.mem_filter] at hx
    have : n.path ≠ x.path := fun e => by rw [e, hx.2] at k; cases k
    simpa using this
  · rw [Bool.not_true, List.all_eq_false]
    exact ⟨n, by rw [hM]; exact List.mem_filter.2 ⟨hn, k⟩, by simp⟩
end Pl
namespace WCutI
theorem nodes_turn {w w' : World} {B : Nat} {a : Option Addr} {L : List Pl.Nd} {n : Nat} {D : DataW Unit} (h : Mem.isNodes w a L) (hown : w.ownsMap Tryz.prog 9 MapN.elem B n D) (hg : w.grownBy w' (some B)) : Mem.isNodes w' a L := fun i n hi => by
  obtain ⟨g, o, rfl, h2, h3, h4, h5, h6, h7⟩ := h i n hi
  have hne : some g ≠ some B := fun e => by
    cases e
    obtain ⟨es, clock, hb, _⟩ := hown
    simp [World.cell?, hb] at h3
  exact ⟨g, o, rfl, Nat.lt_of_lt_of_le h2 hg.size, hg.cell h3 hne, hg.cell h4 hne, hg.cell h5 hne, hg.cell h6 hne, hg.cell h7 hne⟩
structure At (w wr : World) (B N : Nat) (a : Option Addr) (L M : List Pl.Nd) (k : Nat) (D : DataW Unit) : Prop where
  grown : w.grownBy wr (some B)
  own : wr.ownsMap Tryz.prog 9 MapN.elem B N D
  reads : MapN.Reads D (L.filter (fun n => (M.take k).all (fun x => !decide (n.path = x.path))))
  nodes : Mem.isNodes wr a M
set_option linter.unusedSimpArgs false in
set_option maxRecDepth 100000 in
set_option maxHeartbeats 2000000 in
theorem any (B N : Nat) (L : List Pl.Nd) (D : DataW Unit) (p : ByteArray) (w : World) (hown : w.ownsMap Tryz.prog 9 MapN.elem B N D) (hN : N ≤ 1000) (hR : MapN.Reads D L) (hC : L.Pairwise (fun a b => a.path ≠ b.path)) (hr : L.Pairwise (fun a b => Pl.ltP a.path b.path = true))
    (hok : ∀ n ∈ L, Pl.pathB n.path = true ∧ n.data.size ≤ 1048576) (hl : L.length ≤ 1000) (hp : p.size ≤ 1048576) :
    Calls Tryz.prog 80 #[.map (some B), .string p] w fun e w' => e = .returned (.tuple #[]) ∧ (∃ D', w'.ownsMap Tryz.prog 9 MapN.elem B N D' ∧ MapN.Reads D' (L.filter (fun n => !Pl.belowP n.path p && !decide (n.path = p)))) ∧ w.grownBy w' (some B) := by
  have hun := hide (WUnderN.any B N L L D p w hown hN hR hC (List.Perm.refl _) hr hok hl hp)
  have HM := hide (Pl.piece_filter p L (fun n hn => (hok n hn).1) hr)
  have HMS : Hid (∀ m ∈ Pl.pieceL L p, m.path.size ≤ 1048576) := fun m hm => by
    rw [unhide HM, List.mem_filter] at hm
    have := Pl.pathB_le (hok m hm.1).1; omega
  have hml : (Pl.pieceL L p).length ≤ 1000 := by rw [unhide HM]; exact Nat.le_trans (List.length_filter_le _ _) hl
  have hkp := MapN.keyOf_mk (p := p) (by unfold maxLen; omega)
  have HO := hide hown
  have HR := hide hR
  clear hown hR hC hr hok
  generalize Pl.pieceL L p = M at hun HM HMS hml
  go_enter Tryz.func80, Tryz.ntmps80
  go_wp2_with fail
  refine (unhide hun).mono ?_
  rintro e w1 ⟨a, rfl, hnd, -, b1⟩
  have A0 : Hid (At w w1 B N a L M 0 D) := ⟨Mem.grown_of_below b1 _, WNodesI.map_call (unhide HO) b1, by rw [List.filter_eq_self.2 (fun _ _ => by simp)]; exact unhide HR, hnd⟩
  clear hun hnd b1 HO HR
  go_wp2
  go_loopw [10] (fun i wr => ∃ k : Nat, k ≤ M.length ∧ i = .int .i64 (k : Int) ∧ Hid (∃ D', At w wr B N a L M k D')) (fun i _ => M.length - (intOf i).toNat)
  case atStart => exact ⟨0, Nat.zero_le _, rfl, ⟨_, unhide A0⟩⟩
  case round =>
    obtain ⟨k, hk, rfl, HA⟩ := hrel
    obtain ⟨D1, A⟩ := unhide HA
    have KA := hide A
    clear HA A A0
    by_cases hlt : k < M.length
    · obtain ⟨n, hn⟩ : ∃ n, M[k]? = some n := ⟨_, List.getElem?_eq_getElem hlt⟩
      obtain ⟨b, o, rfl, hb, q0, q1, q2, q3, q4⟩ := (unhide KA).nodes k n hn
      have y1 : (k : Int) < (M.length : Int) := by omega
      have y3 : (0 : Int) ≤ (k : Int) := by omega
      have hkn := MapN.keyOf_mk (p := n.path) (by have := unhide HMS n (List.mem_of_getElem? hn); unfold maxLen; omega)
      have EST := hide (Pl.left_step L M hn)
      have RD := hide (MapN.reads_del (unhide KA).reads n.path)
      rw [unhide EST] at RD
      clear hn EST
      obtain ⟨qp, qk, qd, qt, qm⟩ := n
      simp only at q0 q1 q2 q3 q4 hkn RD
      have OWD := (unhide KA).own.alloc (.cells #[.string qp, .int .i64 qk, .string qd, .int .i64 qt, .int .i64 qm] 27)
      have GW := (Mem.grown_trans (unhide KA).grown (World.grownBy_alloc wr (.cells #[.string qp, .int .i64 qk, .string qd, .int .i64 qt, .int .i64 qm] 27) (some B)))
      have ND := Mem.nodes_call (unhide KA).nodes ((Below.refl _ _).alloc (Nat.le_refl _) (.cells #[.string qp, .int .i64 qk, .string qd, .int .i64 qt, .int .i64 qm] 27))
      clear KA
      go_wp2_with (at_delete; refine wpList_delete_own _ rfl _ _ 98 9 rfl 27 MapN.law Tryz.underlying98 _ B N D1 rfl OWD _ _ rfl hkn ?_)
      intro w2 hown2 hturn2
      have A2 : Hid (At w w2 B N (some ⟨b, o, none⟩) L M (k + 1) (D1.del (MapN.key qp))) := ⟨Mem.grown_trans GW hturn2.grown, hown2, unhide RD, nodes_turn ND OWD hturn2.grown⟩
      clear OWD GW ND hown2 hturn2 RD
      go_wp2
      go_roundw
      case rel => exact ⟨k + 1, by omega, by go_num, ⟨_, unhide A2⟩⟩
      case measure => simp [intOf]; omega
    · obtain rfl : k = M.length := by omega
      have y1 : ¬ ((M.length : Int) < (M.length : Int)) := by omega
      have RD := hide (MapN.reads_del (unhide KA).reads p)
      rw [List.take_length, Pl.left_end (unhide HM)] at RD
      go_wp2_with (at_delete; refine wpList_delete_own _ rfl _ _ 98 9 rfl 27 MapN.law Tryz.underlying98 _ B N D1 rfl (unhide KA).own _ _ rfl hkp ?_)
      intro w2 hown2 hturn2
      have FIN := hide (show (∃ D', w2.ownsMap Tryz.prog 9 MapN.elem B N D' ∧ MapN.Reads D' (L.filter (fun n => !Pl.belowP n.path p && !decide (n.path = p)))) ∧ w.grownBy w2 (some B) from ⟨⟨_, hown2, unhide RD⟩, Mem.grown_trans (unhide KA).grown hturn2.grown⟩)
      clear KA hown2 hturn2 RD HM HMS
      go_wp2
      go_end0
      exact ⟨rfl, unhide FIN⟩
end WCutI
end Go.Proofs.YtibmflhelgedeaaGreatDoor

/- The walk of the program's TreeCut. -/
namespace Go.Proofs.YtibmflhelgedeaaGreatDoor
open Go.RowKit Go.Maps
namespace WCutF
set_option linter.unusedSimpArgs false in
set_option maxRecDepth 100000 in
set_option maxHeartbeats 2000000 in
theorem impl_any (a : Option Addr) (cap : Nat) (L : List Pl.Nd) (p : ByteArray) (n : Pl.Nd) (c : Int) (hV : Pl.getV L p = .agg #[.string n.path, .int .i64 n.kind, .string n.data, .int .i64 n.time, .int .i64 n.mark, .int .i64 c]) (w : World) (hl : L.length ≤ 1048576) (hv : Mem.isNodes w a L) (hok : ∀ n ∈ L, n.path.size ≤ 1048576 ∧ n.data.size ≤ 1048576) (hp : p.size ≤ 1048576) (x : Nat → Addr) (hE : WIs.Six w x) :
    Calls Tryz.prog 14 #[.agg #[.slice a L.length cap], .string p] w fun e w' => ∃ v, e = .returned (.agg #[v, .int .i64 c]) ∧ Mem.ownN w' w.heap.size v (Pl.cutO p L c) ∧ Below w.heap.size w w' := by
  have b0 : Below w.heap.size w ((w.alloc (.cells #[.slice a L.length cap] 25)).alloc (.cells #[.slice none 0 0, .int .i64 0] 31)) := ((Below.refl _ _).alloc (Nat.le_refl _) _).alloc (by simp) _
  have hs0 : ((w.alloc (.cells #[.slice a L.length cap] 25)).alloc (.cells #[.slice none 0 0, .int .i64 0] 31)).heap.size = w.heap.size + 2 := by simp
  have hw := hide (WGetT.with_any a cap L p _ hl (Mem.nodes_call hv b0) hok hp x (hE.call b0))
  have V2 : Mem.Blk ((w.alloc (.cells #[.slice a L.length cap] 25)).alloc (.cells #[.slice none 0 0, .int .i64 0] 31)) (w.heap.size + 1) #[.slice none 0 0, .int .i64 0] 31 := Mem.new_two _ _ _
  have HE := hide hE
  have HV := hide hV
  have EO : Hid (Pl.cutO p L c = if c = 0 then Pl.offL p L else []) := rfl
  generalize Pl.cutO p L c = O at EO ⊢
  clear hv hok hE hV
  go_enter Tryz.func14, Tryz.ntmps14
  go_wp2_with fail
  refine (unhide hw).mono ?_
  rintro e w1 ⟨⟨h1⟩, b1⟩
  have b2 := b0.trans (b1.mono b0.size)
  have HE1 := hide ((unhide HE).call b2)
  have V3 := V2.call b1
  clear hw b1 b0 V2 HE
  rcases h1 with ⟨i, hi, rfl, hg⟩ | ⟨B, m, rfl, hB, hown, hm1, hmp, hC, hg⟩
  · have hc : c = WIs.codeOf i := by
      have h := unhide HV
      rw [hg] at h
      simp at h
      exact h.2.2.2.2.2.symm
    have HC := hide hc
    have EN := hide (show O = [] by rw [unhide EO, if_neg (by rw [hc]; exact code_pos i)])
    have hcd := hide (code_any x w1 (unhide HE1) i (by omega))
    generalize WIs.codeOf i = c2 at hcd HC
    clear hg HV hi EO hc
    go_wp2_with fail
    refine (unhide hcd).mono ?_
    rintro e w2 ⟨rfl, rfl⟩
    have d0 := V3.cell 0
    have d1 := V3.cell 1
    have f0 := V3.fr 0
    have f1 := V3.fr 1
    simp only [kA0, kA1, kA2] at d0 d1
    clear V3 hcd
    go_wp2
    refine bodyPost_ret (v := .agg #[.slice none 0 0, .int .i64 c2]) (by simp [results, Tryz.results14, go_sem, d0, d1]) rfl ⟨.slice none 0 0, by rw [unhide HC], by rw [unhide EN]; exact Mem.ownN_nil _ _, ?_⟩
    exact (b2.setCell (by show w.heap.size ≤ w.heap.size + 1; omega) _).setCell (by show w.heap.size ≤ w.heap.size + 1; omega) _
  · have hc : c = 0 := by
      have h := unhide HV
      rw [hg] at h
      simp at h
      exact h.2.2.2.2.2.symm
    have HC := hide hc
    have EN := hide (show O = Pl.offL p L by rw [unhide EO, if_pos hc])
    obtain ⟨ht, hpb, -⟩ := Pl.get_ok hg
    obtain ⟨hr, hokn, h40⟩ := Pl.tree_rise ht
    have hcut := hide (WCutI.any B 40 L (MapN.mapOf L) p w1 hown (by omega) (MapN.reads_mapOf hC) hC hr hokn (by omega) hp)
    rw [Pl.off_below (fun n hn => (hokn n hn).1) hpb] at hcut
    have hris := hide (fun D' W (hO : W.ownsMap Tryz.prog 9 MapN.elem B 40 D') (hR : MapN.Reads D' (Pl.offL p L)) => WRising.any B 40 (Pl.offL p L) (Pl.offL p L) D' W hO (by omega) hR (hC.filter _) (List.Perm.refl _) (hr.filter _) (fun n hn => hokn n ((List.mem_filter.1 hn).1)))
    rw [hs0] at hB
    clear hg HV hm1 hmp hC hown ht hpb hr hokn h40 HE1 hs0 EO hc
    generalize Pl.offL p L = O2 at hcut hris EN
    go_wp2_with fail
    refine (unhide hcut).mono ?_
    rintro e w2 ⟨rfl, ⟨D', hO2, hR2⟩, hg2⟩
    have b3 := b2.grown hg2 b2.size (fun q hq => by cases hq; omega)
    have V4 := V3.grown hg2 (fun e => by cases e; omega)
    have HR2 := hide hR2
    have HO2 := hide hO2
    clear hcut V3 b2 hR2 hO2 hg2
    go_wp2_with fail
    refine (unhide hris D' _ (unhide HO2) (unhide HR2)).mono ?_
    rintro e w3 ⟨v, rfl, own, b4⟩
    obtain ⟨a', cap', rfl⟩ := Mem.own_shape own
    have b5 := b3.trans (b4.mono b3.size)
    have V5 := V4.call b4
    have HS : w.heap.size + 1 < w2.heap.size := V4.lt
    have OW := hide own
    have d0 := V5.cell 0
    have d1 := V5.cell 1
    have f0 := V5.fr 0
    have f1 := V5.fr 1
    simp only [kA0, kA1, kA2] at d0 d1
    clear hris HO2 HR2 V4 V5 own b3 b4
    go_wp2
    refine bodyPost_ret (v := .agg #[.slice a' O2.length cap', .int .i64 0]) (by simp [results, Tryz.results14, go_sem, d0, d1]) rfl ⟨.slice a' O2.length cap', by rw [unhide HC], ?_, ?_⟩
    · rw [unhide EN]
      exact Mem.ownN_mono (Mem.ownN_set (Mem.ownN_set (unhide OW) _ _ HS) _ _ HS) (by omega)
    · exact (b5.setCell (by show w.heap.size ≤ w.heap.size + 1; omega) _).setCell (by show w.heap.size ≤ w.heap.size + 1; omega) _
end WCutF
end Go.Proofs.YtibmflhelgedeaaGreatDoor

/- The walk of the program's TreePut. -/
namespace Go.Proofs.YtibmflhelgedeaaGreatDoor
open Go.RowKit Go.Maps
namespace Pl
theorem putO_max {L : List Nd} {n : Nd} (h : L.length ≤ 1048576) : (putO L n).length ≤ 1048576 := by
  by_cases ht : treeB L = true
  · have := putO_len L n
    have := (tree_rise ht).2.2
    omega
  · rw [putO, if_neg (fun h => ht h.1)]
    exact Nat.zero_le _
end Pl
namespace WPutF
set_option linter.unusedSimpArgs false in
set_option maxRecDepth 100000 in
set_option maxHeartbeats 2000000 in
theorem impl_any (a : Option Addr) (cap : Nat) (L : List Pl.Nd) (n : Pl.Nd) (w : World) (hl : L.length ≤ 1048576) (hv : Mem.isNodes w a L) (hok : ∀ n ∈ L, n.path.size ≤ 1048576 ∧ n.data.size ≤ 1048576) (hn : n.path.size ≤ 1048576 ∧ n.data.size ≤ 1048576) (x : Nat → Addr) (hE : WIs.Six w x) :
    Calls Tryz.prog 12 #[.agg #[.slice a L.length cap], n.val] w fun e w' => ∃ v, e = .returned (.agg #[v, .int .i64 (Pl.putC L n)]) ∧ Mem.ownN w' w.heap.size v (Pl.putO L n) ∧ Below w.heap.size w w' := by
  have HC : Hid (Pl.putC L n = if Pl.treeB L = true ∧ Pl.nodeB n = true then Pl.addC L n else 1) := rfl
  have HO : Hid (Pl.putO L n = if Pl.treeB L = true ∧ Pl.nodeB n = true then Pl.addO L n else []) := rfl
  have HA : Hid (Pl.addO L n = if Pl.addC L n = 0 then Pl.putL L n else []) := rfl
  have HNW := hide (fun W (b : Below w.heap.size w W) => WNodesI.nodes_any a cap L W hl (Mem.nodes_call hv b) hok _ _ _ _ _ _ (hE.call b).errs)
  have HPUT := hide (fun B W (b : Below w.heap.size w W) (hown : W.ownsMap Tryz.prog 9 MapN.elem B 40 (MapN.mapOf L)) (ht : Pl.treeB L = true) => WPutI.put_any B L n W hown (Pl.tree_apart' ht) (Pl.tree_rise ht).1 (Pl.tree_rise ht).2.1 (Pl.tree_rise ht).2.2 hn x (hE.call b))
  have HRIS := hide (fun B D' W (ht : Pl.treeB L = true) (hnb : Pl.nodeB n = true) (hO : W.ownsMap Tryz.prog 9 MapN.elem B 41 D') (hR : MapN.Reads D' (L.filter (fun m => !decide (m.path = n.path)) ++ [n])) =>
    WRising.any B 41 _ (Pl.putL L n) D' W hO (by omega) hR (Pl.apart_put (Pl.tree_apart' ht)) (Pl.put_ok (fun m hm => ((Pl.tree_rise ht).2.1 m hm).1) (Pl.node_right hnb).1 (Pl.tree_rise ht).1).2
      (Pl.put_ok (fun m hm => ((Pl.tree_rise ht).2.1 m hm).1) (Pl.node_right hnb).1 (Pl.tree_rise ht).1).1
      (fun m hm => (Pl.mem_put hm).elim (fun h => (Pl.tree_rise ht).2.1 m h) (fun h => by rw [h]; exact ⟨(Pl.node_right hnb).1, hn.2⟩)))
  have HE := hide hE
  clear hv hok hE
  generalize Pl.putC L n = c at HC ⊢
  generalize Pl.putO L n = O at HO ⊢
  generalize Pl.addO L n = AO at HO HA
  obtain ⟨np, nk, nd, nt, nm⟩ := n
  simp only [Pl.Nd.val] at HPUT ⊢
  have b0 : Below w.heap.size w (((w.alloc (.cells #[.slice a L.length cap] 25)).alloc (.cells #[.string np, .int .i64 nk, .string nd, .int .i64 nt, .int .i64 nm] 27)).alloc (.cells #[.slice none 0 0, .int .i64 0] 31)) := (((Below.refl _ _).alloc (Nat.le_refl _) _).alloc (by simp) _).alloc (by simp; omega) _
  have hs0 : (((w.alloc (.cells #[.slice a L.length cap] 25)).alloc (.cells #[.string np, .int .i64 nk, .string nd, .int .i64 nt, .int .i64 nm] 27)).alloc (.cells #[.slice none 0 0, .int .i64 0] 31)).heap.size = w.heap.size + 3 := by simp
  have V1 : Mem.Blk (((w.alloc (.cells #[.slice a L.length cap] 25)).alloc (.cells #[.string np, .int .i64 nk, .string nd, .int .i64 nt, .int .i64 nm] 27)).alloc (.cells #[.slice none 0 0, .int .i64 0] 31)) (w.heap.size + 1) #[.string np, .int .i64 nk, .string nd, .int .i64 nt, .int .i64 nm] 27 := Mem.Blk.alloc (Mem.new_two _ _ _) _
  have V2 : Mem.Blk (((w.alloc (.cells #[.slice a L.length cap] 25)).alloc (.cells #[.string np, .int .i64 nk, .string nd, .int .i64 nt, .int .i64 nm] 27)).alloc (.cells #[.slice none 0 0, .int .i64 0] 31)) (w.heap.size + 2) #[.slice none 0 0, .int .i64 0] 31 := by
    have := Mem.Blk.new ((w.alloc (.cells #[.slice a L.length cap] 25)).alloc (.cells #[.string np, .int .i64 nk, .string nd, .int .i64 nt, .int .i64 nm] 27)) #[.slice none 0 0, .int .i64 0] 31
    simpa using this
  have hnw := hide (unhide HNW _ b0)
  clear HNW
  go_enter Tryz.func12, Tryz.ntmps12
  go_wp2_with fail
  refine (unhide hnw).mono ?_
  rintro e w1 ⟨h1, b1⟩
  have bw1 := b0.trans (b1.mono b0.size)
  have N1 := V1.call b1
  have O1 := V2.call b1
  clear hnw b1 b0 V1 V2
  rcases h1 with ⟨ht, B, rfl, hB, hown⟩ | ⟨ht, rfl⟩
  · rw [hs0] at hB
    have hput := hide (unhide HPUT B w1 bw1 hown ht)
    have hris := hide (fun D' W => unhide HRIS B D' W ht)
    have HT := hide ht
    clear HPUT HRIS hown ht hs0
    have p0 := N1.cell 0
    have p1 := N1.cell 1
    have p2 := N1.cell 2
    have p3 := N1.cell 3
    have p4 := N1.cell 4
    simp only [kA0, kA1, kA2] at p0 p1 p2 p3 p4
    clear N1
    go_wp2_with fail
    refine (unhide hput).mono ?_
    rintro e w2 ⟨h2⟩
    clear hput p0 p1 p2 p3 p4
    rcases h2 with ⟨i, hi, rfl, hc, b2⟩ | ⟨rfl, hnb, hc, ⟨D', hO2, hR2⟩, hg2⟩
    · have bw2 := bw1.trans (b2.mono bw1.size)
      have O2 := O1.call b2
      have EC := hide (show c = WIs.codeOf i ∧ O = [] by
        rw [hc, unhide HC, unhide HO]
        by_cases hnb : Pl.nodeB ⟨np, nk, nd, nt, nm⟩ = true
        · rw [if_pos ⟨unhide HT, hnb⟩, if_pos hnb, if_pos ⟨unhide HT, hnb⟩, unhide HA]
          rw [if_pos hnb] at hc
          exact ⟨rfl, if_neg (by rw [← hc]; exact WCutF.code_pos i)⟩
        · rw [if_neg (fun h => hnb h.2), if_neg hnb, if_neg (fun h => hnb h.2)]
          exact ⟨rfl, rfl⟩)
      have hcd := hide (WCutF.code_any x w2 ((unhide HE).call bw2) i hi)
      generalize WIs.codeOf i = c2 at hcd EC
      clear hc HC HO HA HT hris O1 bw1 b2 HE hi
      go_wp2_with fail
      refine (unhide hcd).mono ?_
      rintro e w3 ⟨rfl, rfl⟩
      have d0 := O2.cell 0
      have d1 := O2.cell 1
      have f0 := O2.fr 0
      have f1 := O2.fr 1
      simp only [kA0, kA1, kA2] at d0 d1
      clear O2 hcd
      go_wp2
      refine bodyPost_ret (v := .agg #[.slice none 0 0, .int .i64 c2]) (by simp [results, Tryz.results12, go_sem, d0, d1]) rfl ⟨.slice none 0 0, by rw [(unhide EC).1], by rw [(unhide EC).2]; exact Mem.ownN_nil _ _, ?_⟩
      exact (bw2.setCell (by show w.heap.size ≤ w.heap.size + 2; omega) _).setCell (by show w.heap.size ≤ w.heap.size + 2; omega) _
    · have b3 := bw1.grown hg2 bw1.size (fun q hq => by cases hq; omega)
      have O2 := O1.grown hg2 (fun e => by cases e; omega)
      have EC := hide (show c = 0 ∧ O = Pl.putL L ⟨np, nk, nd, nt, nm⟩ by
        rw [unhide HC, unhide HO, if_pos ⟨unhide HT, hnb⟩, if_pos ⟨unhide HT, hnb⟩, unhide HA, if_pos hc]
        exact ⟨hc, rfl⟩)
      have hrs := hide (unhide hris D' w2 hnb hO2 hR2)
      clear hris HC HO HA HT O1 bw1 hO2 hR2 hc hg2 HE hnb
      generalize Pl.putL L ⟨np, nk, nd, nt, nm⟩ = P at EC hrs
      go_wp2_with fail
      refine (unhide hrs).mono ?_
      rintro e w3 ⟨v, rfl, own, b4⟩
      obtain ⟨a', cap', rfl⟩ := Mem.own_shape own
      have b5 := b3.trans (b4.mono b3.size)
      have O3 := O2.call b4
      have HS : w.heap.size + 2 < w2.heap.size := O2.lt
      have OW := hide own
      have d0 := O3.cell 0
      have d1 := O3.cell 1
      have f0 := O3.fr 0
      have f1 := O3.fr 1
      simp only [kA0, kA1, kA2] at d0 d1
      clear hrs O2 O3 own b3 b4
      go_wp2
      refine bodyPost_ret (v := .agg #[.slice a' P.length cap', .int .i64 0]) (by simp [results, Tryz.results12, go_sem, d0, d1]) rfl ⟨.slice a' P.length cap', by rw [(unhide EC).1], ?_, ?_⟩
      · rw [(unhide EC).2]
        exact Mem.ownN_mono (Mem.ownN_set (Mem.ownN_set (unhide OW) _ _ HS) _ _ HS) (by omega)
      · exact (b5.setCell (by show w.heap.size ≤ w.heap.size + 2; omega) _).setCell (by show w.heap.size ≤ w.heap.size + 2; omega) _
  · have EC := hide (show c = 1 ∧ O = [] by
      rw [unhide HC, unhide HO, if_neg (by rw [ht]; simp), if_neg (by rw [ht]; simp)]
      exact ⟨rfl, rfl⟩)
    have hcd := hide (WCutF.code_any x w1 ((unhide HE).call bw1) 1 (by omega))
    rw [show WIs.codeOf 1 = 1 from rfl] at hcd
    clear HC HO HA HPUT HRIS HE ht hs0 N1
    go_wp2_with fail
    refine (unhide hcd).mono ?_
    rintro e w3 ⟨rfl, rfl⟩
    have d0 := O1.cell 0
    have d1 := O1.cell 1
    have f0 := O1.fr 0
    have f1 := O1.fr 1
    simp only [kA0, kA1, kA2] at d0 d1
    clear O1 hcd
    go_wp2
    refine bodyPost_ret (v := .agg #[.slice none 0 0, .int .i64 1]) (by simp [results, Tryz.results12, go_sem, d0, d1]) rfl ⟨.slice none 0 0, by rw [(unhide EC).1], by rw [(unhide EC).2]; exact Mem.ownN_nil _ _, ?_⟩
    exact (bw1.setCell (by show w.heap.size ≤ w.heap.size + 2; omega) _).setCell (by show w.heap.size ≤ w.heap.size + 2; omega) _
end WPutF
end Go.Proofs.YtibmflhelgedeaaGreatDoor

