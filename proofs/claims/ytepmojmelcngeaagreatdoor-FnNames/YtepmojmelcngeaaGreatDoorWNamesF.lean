/- The walk of the program's TreeNames. -/
import Derived.Test.YtepmojmelcngeaaGreatDoorG56
import Derived.Test.YtepmojmelcngeaaGreatDoorG17
import Derived.Test.YtepmojmelcngeaaGreatDoorWNodesJ
import Derived.Maps.AppendAt
namespace Go.Proofs.YtepmojmelcngeaaGreatDoor
open Go.RowKit Go.Maps
namespace WNamesF
set_option linter.unusedSimpArgs false in
set_option maxRecDepth 100000 in
set_option maxHeartbeats 4000000 in
theorem impl_any (a : Option Addr) (cap : Nat) (L : List Pl.Nd) (p : ByteArray) (w : World) (hl : L.length ≤ 1048576) (hv : Mem.isNodes w a L) (hok : ∀ n ∈ L, n.path.size ≤ 1048576 ∧ n.data.size ≤ 1048576) (hp : p.size ≤ 1048576)
    (r1 r2 r3 : TypeId) (x1 x2 x3 : Value) (hE : WNodesI.Errs w r1 r2 r3 x1 x2 x3) :
    Calls Tryz.prog 19 #[.agg #[.slice a L.length cap], .string p] w fun e w' => ∃ v, e = .returned v ∧ w'.ownsRow w.heap.size 9 1 v (Pl.kidsO p L).length ((Pl.kidsO p L).map Value.string) ∧ Below w.heap.size w w' := by
  obtain ⟨i0, hi, hz0, hz1, hz2⟩ := info_parts WNamesT.infoS
  have b0 : Below w.heap.size w (w.alloc (.cells #[.slice a L.length cap] 31)) := (Below.refl _ _).alloc (Nat.le_refl _) _
  have hno := hide (WNodesI.nodes_any a cap L _ hl (Mem.nodes_call hv b0) hok r1 r2 r3 x1 x2 x3 (hE.call b0))
  have hkey := MapN.keyOf_mk (p := p) (by unfold maxLen; omega)
  have EO : Hid (Pl.kidsO p L = if Pl.treeB L = true ∧ Pl.dirS L p = true then Pl.kidsL p L else []) := rfl
  generalize Pl.kidsO p L = K at EO ⊢
  clear hv hok hE
  go_enter Tryz.func19, Tryz.ntmps19
  go_wp2_with fail
  refine (unhide hno).mono ?_
  rintro e w1 ⟨h1, b1⟩
  have bw1 := b0.trans (b1.mono b0.size)
  clear hno b0 b1
  rcases h1 with ⟨ht, B, rfl, hB, hmap⟩ | ⟨ht, rfl⟩
  rotate_left
  · have e : K = [] := by rw [unhide EO, if_neg (by rw [ht]; simp)]
    subst e
    clear EO ht
    go_wp2
    go_ret
    exact ⟨_, rfl, ⟨rfl, .inl ⟨rfl, rfl⟩⟩, bw1⟩
  have htr := ht
  simp only [Pl.treeB, Bool.and_eq_true, decide_eq_true_eq] at htr
  have hnb := Pl.goI_all L _ _ htr.2
  have hC := Pl.tree_apart' ht
  have hrise := Pl.tree_rise' ht
  have hokn : ∀ n ∈ L, Pl.pathB n.path = true ∧ n.data.size ≤ 1048576 := fun n hn => ⟨(Pl.node_right (hnb n hn)).1, by have := (Pl.node_bounds (hnb n hn)).1; omega⟩
  have hun := hide (fun W (hO : W.ownsMap Tryz.prog 9 MapN.elem B 40 (MapN.mapOf L)) => WUnderN.any B 40 L L (MapN.mapOf L) p W hO (by omega) (MapN.reads_mapOf hC) hC (List.Perm.refl _) hrise hokn (by omega) hp)
  have HRT : Hid (∀ n ∈ L, Pl.pathB n.path = true ∧ n.path.size ≠ 0) := fun n hn => Pl.node_right (hnb n hn)
  have HMF := hide (Pl.piece_filter p L (fun n hn => (hokn n hn).1) hrise)
  have HMK : Hid (∀ n ∈ Pl.pieceL L p, Pl.pathB n.path = true ∧ Pl.glue (Pl.namesR n.path).dropLast = Pl.parent n.path ∧ Pl.glue ((Pl.namesR n.path).drop ((Pl.namesR n.path).length - 1)) = Pl.base n.path) := fun n hn => by
    rw [unhide HMF, List.mem_filter] at hn
    have h := (hokn n hn.1).1
    exact ⟨h, by rw [Pl.parent_glue, Pl.namesR_yes h], by rw [Pl.base_glue, Pl.namesR_yes h]⟩
  have hml : (Pl.pieceL L p).length ≤ 1000 := by rw [unhide HMF]; have := List.length_filter_le (fun n : Pl.Nd => Pl.belowP n.path p) L; omega
  have DR : Hid (Pl.dirS L p = true → Pl.pathB p = true) := fun h => Pl.dir_right (fun n hn => (hokn n hn).1) h
  obtain ⟨vv, ps, hrun, hvv⟩ := hmap.lookup MapN.law Tryz.underlying74 (MapN.zeroN _) (MapN.elem_mk _) hkey
  obtain ⟨nd, rfl, hd⟩ := MapN.elem_inv hvv
  have DS : Hid (p.size ≠ 0 → Pl.dirS L p = decide (nd.kind = 1)) := fun h0 => by
    cases hf : L.find? (fun m => decide (m.path = p)) with
    | none =>
      have hmiss : ∀ n ∈ L, n.path ≠ p := fun n hn => by simpa using List.find?_eq_none.1 hf n hn
      have h1 := (MapN.mapOf_miss p L (.map []) hmiss).2 (MapN.dat ⟨⟨#[]⟩, 0, ⟨#[]⟩, 0, 0⟩)
      have h2 : MapN.dat nd = MapN.dat ⟨⟨#[]⟩, 0, ⟨#[]⟩, 0, 0⟩ := by rw [← hd]; exact h1
      have h3 := MapN.dat_inj h2
      rw [Pl.dirS, hf, h3]; simp [h0]
    | some m =>
      have h1 := List.mem_of_find?_eq_some hf
      have h2 : m.path = p := by simpa using List.find?_some hf
      have h3 := (MapN.at_yes hC h1).2 (MapN.dat ⟨⟨#[]⟩, 0, ⟨#[]⟩, 0, 0⟩)
      rw [h2] at h3
      have h4 := MapN.dat_inj (hd.symm.trans h3)
      rw [Pl.dirS, hf, h4]; simp [h0]
  clear hvv hd hnb hC hrise hokn htr hB hkey
  obtain ⟨ndp, ndk, ndd, ndt, ndm⟩ := nd
  simp only [Pl.Nd.val] at hrun DS
  have hfd : ∀ W : World, (Instr.field 36 (.agg #[.string ndp, .int .i64 ndk, .string ndd, .int .i64 ndt, .int .i64 ndm]) 1).run Tryz.prog W = .ok (.int .i64 ndk) W := fun _ => by kernel_rfl
  generalize Pl.pieceL L p = M at hun HMF HMK hml
  by_cases h0 : p.size = 0
  · have t0 : p.toList.isEmpty = true := by rw [Pl.empty_list]; simpa [Pl.by_nil] using h0
    have HD : Pl.dirS L p = true := by simp [Pl.dirS, h0]
    have HCOND : Pl.treeB L = true ∧ Pl.dirS L p = true := ⟨ht, HD⟩
    have HPB := unhide DR HD
    have EK := hide (show K = Pl.kidsL p M by rw [unhide EO, if_pos HCOND, unhide HMF, Pl.kids_piece (fun n hn => unhide HRT n hn) HPB])
    have HW1 : Hid (w.heap.size ≤ w1.heap.size) := bw1.size
    have BW := bw1.alloc bw1.size (.cells #[] 9)
    have OW0 : Hid ((w1.alloc (.cells #[] 9)).ownsRow w1.heap.size 9 1 (.slice (some ⟨w1.heap.size, 0, none⟩) 0 0) (Pl.kidsL p (M.take 0)).length ((Pl.kidsL p (M.take 0)).map Value.string)) :=
      ⟨rfl, .inr ⟨w1.heap.size, 0, #[], rfl, Nat.le_refl _, heap_alloc_new _ _, Nat.le_refl _, Nat.zero_le _, rfl, rfl⟩⟩
    have HMA := hide (hmap.alloc (.cells #[] 9))
    clear hmap bw1 EO HRT HMF
    clear DS DR HCOND HPB HD ht hrun
    go_wp2_with fail
    refine (unhide hun _ (unhide HMA)).mono ?_
    rintro e w2 ⟨a', rfl, hnd, hbk, b2⟩
    have hX2 : w1.heap.size < w2.heap.size := by have := b2.size; simp at this; omega
    have BW2 := hide (BW.trans (b2.mono BW.size))
    have OW2 := hide (Mem.own_call (unhide OW0) b2)
    have HND := hide hnd
    have HBK : Hid (∀ b o, a' = some ⟨b, o, none⟩ → w1.heap.size < b) := fun b o e => by have := hbk b o e; simp at this; omega
    clear hun hnd hbk b2 OW0 BW HMA
    go_wp2
    go_loopw [7, 33] (fun v i wr => ∃ k : Nat, k ≤ M.length ∧ i = .int .i64 (k : Int) ∧ Hid (Below w.heap.size w wr) ∧ Hid (Mem.isNodes wr a' M ∧ w2.heap.size ≤ wr.heap.size) ∧ Hid (∀ g, v.ownBlock = some g → g = w1.heap.size ∨ w2.heap.size ≤ g) ∧ Hid (wr.ownsRow w1.heap.size 9 1 v (Pl.kidsL p (M.take k)).length ((Pl.kidsL p (M.take k)).map Value.string))) (fun _ i _ => M.length - (intOf i).toNat)
    case atStart => exact ⟨0, Nat.zero_le _, rfl, BW2, ⟨unhide HND, Nat.le_refl _⟩, (fun g hg => by cases hg; exact .inl rfl), OW2⟩
    case round =>
      obtain ⟨k, hk, rfl, HB, HN, HL, HW⟩ := hrel
      by_cases hlt : k < M.length
      · obtain ⟨n, hn⟩ : ∃ n, M[k]? = some n := ⟨_, List.getElem?_eq_getElem hlt⟩
        obtain ⟨b, o, ea, hb, q0, q1, q2, q3, q4⟩ := (unhide HN).1 k n hn
        have hb2 := hide (unhide HND k n hn)
        have HB2 : Hid (b < w2.heap.size) := by
          obtain ⟨b', o', e, h2, _⟩ := unhide hb2
          rw [ea] at e; cases e; exact h2
        have HB1 := hide (unhide HBK b o ea)
        have y1 : (k : Int) < (M.length : Int) := by omega
        have y3 : (0 : Int) ≤ (k : Int) := by omega
        obtain ⟨hnp, hpar, hbas⟩ := unhide HMK n (List.mem_of_getElem? hn)
        have hpa := hide (fun W => WPathI.parent_any n.path W (by have := Pl.pathB_le hnp; omega))
        have hba := hide (fun W => WPathI.base_any n.path W (by have := Pl.pathB_le hnp; omega))
        rw [hpar] at hpa
        rw [hbas] at hba
        have HLEN := hide (Pl.kids_len p M k)
        subst ea
        clear hb2
        by_cases hk0 : Pl.parent n.path = p
        · have HK := hide (Pl.kids_in hn hk0)
          rw [hk0] at hpa
          generalize Pl.base n.path = BB at hba HK
          clear hn hk0 hnp hpar hbas
          obtain ⟨qp, qk, qd, qt, qm⟩ := n
          simp only at q0 q1 q2 q3 q4 hpa hba
          have bW := (unhide HB).alloc (unhide HB).size (.cells #[.string qp, .int .i64 qk, .string qd, .int .i64 qt, .int .i64 qm] 36)
          have V1 := Mem.Blk.new wr #[.string qp, .int .i64 qk, .string qd, .int .i64 qt, .int .i64 qm] 36
          have OWa := hide ((unhide HW).alloc (.cells #[.string qp, .int .i64 qk, .string qd, .int .i64 qt, .int .i64 qm] 36))
          have NDa := hide (Mem.nodes_call (unhide HN).1 ((Below.refl _ _).alloc (Nat.le_refl _) (.cells #[.string qp, .int .i64 qk, .string qd, .int .i64 qt, .int .i64 qm] 36)))
          have hsW : wr.heap.size < (wr.alloc (.cells #[.string qp, .int .i64 qk, .string qd, .int .i64 qt, .int .i64 qm] 36)).heap.size := by simp
          have hs2 := (unhide HN).2
          clear HB HN HW
          go_wp2_with fail
          refine (unhide hpa _).mono ?_
          rintro e w3 ⟨rfl, b3⟩
          have c3 := (V1.call b3).cell 0
          simp only [kA0, kA1] at c3
          have bW3 := bW.trans (b3.mono bW.size)
          have OWb := hide (Mem.own_call (unhide OWa) b3)
          have NDb := hide (Mem.nodes_call (unhide NDa) b3)
          have hs3 := b3.size
          clear hpa bW b3 OWa NDa V1 q0 q1 q2 q3 q4
          go_wp2_with fail
          refine (unhide hba _).mono ?_
          rintro e w4 ⟨rfl, b4⟩
          have bW4 := bW3.trans (b4.mono bW3.size)
          have OWc := Mem.own_call (unhide OWb) b4
          have NDc := hide (Mem.nodes_call (unhide NDb) b4)
          have hs4 := b4.size
          clear hba bW3 b4 OWb NDb c3
          go_wp2_with (at_builtin; refine wpList_append_own_at _ rfl _ _ 46 rfl w1.heap.size 9 i0 (.string ⟨#[]⟩) 1 16 Tryz.underlying46 hi hz0 hz1 hz2 rfl (by decide) _ _ _ rfl (OWc.alloc _) ⟨w4.heap.size, 0, none⟩ 1 1 [.string BB] rfl rfl (Mem.one_new _ _ _) (fun u hu => by simp at hu; subst hu; rfl) (by have := unhide HLEN; unfold maxLen; omega) (by have := unhide HLEN; omega) (by simp; omega) ?_)
          intro v' wZ hownZ hgrow _ hloc
          have OW := hide (show wZ.ownsRow w1.heap.size 9 1 v' (Pl.kidsL p (M.take (k + 1))).length ((Pl.kidsL p (M.take (k + 1))).map Value.string) by rw [unhide HK]; exact WNamesT.own_snoc hownZ)
          have HL2 : Hid (∀ g, v'.ownBlock = some g → g = w1.heap.size ∨ w2.heap.size ≤ g) := fun g hg => by
            rcases hloc with h | h
            · exact unhide HL g (by rw [← h]; exact hg)
            · rw [h] at hg; cases hg; right; have h9 := (World.grownBy_alloc w4 (.cells #[.string BB] 9) none).size; omega
          have BZ := hide ((bW4.alloc bW4.size (.cells #[.string BB] 9)).grown hgrow (by have := bW4.size; simp; omega) (fun q hq => by have := (unhide HL q hq); have := unhide HW1; omega))
          have NZ := hide (show Mem.isNodes wZ (some ⟨b, o, none⟩) M ∧ w2.heap.size ≤ wZ.heap.size from ⟨Mem.nodes_grown (Mem.nodes_call (unhide NDc) ((Below.refl _ _).alloc (Nat.le_refl _) (.cells #[.string BB] 9))) hgrow (fun e => by have := unhide HL b e.symm; have := unhide HB2; have := unhide HB1; omega), by have := hgrow.size; simp at this; omega⟩)
          clear hownZ hgrow hloc bW4 OWc NDc
          go_wp2
          go_roundw
          case rel => exact ⟨k + 1, by omega, by go_num, BZ, NZ, HL2, OW⟩
          case measure => simp [intOf]; omega
        · have HK := hide (Pl.kids_out hn hk0)
          have t1 := WNamesT.tl_eq hk0
          generalize Pl.parent n.path = PP at hpa t1
          clear hn hk0 hnp hba hpar hbas
          obtain ⟨qp, qk, qd, qt, qm⟩ := n
          simp only at q0 q1 q2 q3 q4 hpa
          rw [← unhide HK] at HW
          have bW := (unhide HB).alloc (unhide HB).size (.cells #[.string qp, .int .i64 qk, .string qd, .int .i64 qt, .int .i64 qm] 36)
          have OWa := hide ((unhide HW).alloc (.cells #[.string qp, .int .i64 qk, .string qd, .int .i64 qt, .int .i64 qm] 36))
          have NDa := hide (Mem.nodes_call (unhide HN).1 ((Below.refl _ _).alloc (Nat.le_refl _) (.cells #[.string qp, .int .i64 qk, .string qd, .int .i64 qt, .int .i64 qm] 36)))
          have hsW : wr.heap.size < (wr.alloc (.cells #[.string qp, .int .i64 qk, .string qd, .int .i64 qt, .int .i64 qm] 36)).heap.size := by simp
          have hs2 := (unhide HN).2
          clear HB HN HW
          go_wp2_with fail
          refine (unhide hpa _).mono ?_
          rintro e w3 ⟨rfl, b3⟩
          have BZ := hide (bW.trans (b3.mono bW.size))
          have OW := hide (Mem.own_call (unhide OWa) b3)
          have NZ := hide (show Mem.isNodes w3 (some ⟨b, o, none⟩) M ∧ w2.heap.size ≤ w3.heap.size from ⟨Mem.nodes_call (unhide NDa) b3, by have := b3.size; omega⟩)
          clear hpa bW b3 OWa NDa q0 q1 q2 q3 q4
          go_wp2
          go_roundw
          case rel => exact ⟨k + 1, by omega, by go_num, BZ, NZ, HL, OW⟩
          case measure => simp [intOf]; omega
      · obtain rfl : k = M.length := by omega
        rw [List.take_length] at HW
        have y1 : ¬ ((M.length : Int) < (M.length : Int)) := by omega
        have FIN := hide (show ∃ v', u7 = v' ∧ wr.ownsRow w.heap.size 9 1 v' K.length (K.map Value.string) ∧ Below w.heap.size w wr from ⟨u7, rfl, by rw [unhide EK]; exact Mem.own_mono (unhide HW) (by have := unhide HW1; omega), unhide HB⟩)
        clear HB HN HL HW HND HBK HMK BW2 OW2 EK
        go_wp2
        go_ret
        obtain ⟨v', e, h1, h2⟩ := unhide FIN
        exact ⟨u7, rfl, by rw [e]; exact h1, h2⟩
  · have t0 : p.toList.isEmpty = false := by rw [Pl.empty_list]; simpa [Pl.by_nil] using h0
    by_cases hk1 : ndk = 1
    · have t1 : (ndk == 1) = true := by simpa using hk1
      have HD : Pl.dirS L p = true := by rw [unhide DS h0]; simpa using hk1
      have HCOND : Pl.treeB L = true ∧ Pl.dirS L p = true := ⟨ht, HD⟩
      have HPB := unhide DR HD
      have EK := hide (show K = Pl.kidsL p M by rw [unhide EO, if_pos HCOND, unhide HMF, Pl.kids_piece (fun n hn => unhide HRT n hn) HPB])
      have HW1 : Hid (w.heap.size ≤ w1.heap.size) := bw1.size
      have BW := bw1.alloc bw1.size (.cells #[] 9)
      have OW0 : Hid ((w1.alloc (.cells #[] 9)).ownsRow w1.heap.size 9 1 (.slice (some ⟨w1.heap.size, 0, none⟩) 0 0) (Pl.kidsL p (M.take 0)).length ((Pl.kidsL p (M.take 0)).map Value.string)) :=
        ⟨rfl, .inr ⟨w1.heap.size, 0, #[], rfl, Nat.le_refl _, heap_alloc_new _ _, Nat.le_refl _, Nat.zero_le _, rfl, rfl⟩⟩
      have HMA := hide (hmap.alloc (.cells #[] 9))
      clear hmap bw1 EO HRT HMF
      clear DS DR HCOND HPB HD ht h0
      subst hk1
      go_wp2_with fail
      refine (unhide hun _ (unhide HMA)).mono ?_
      rintro e w2 ⟨a', rfl, hnd, hbk, b2⟩
      have hX2 : w1.heap.size < w2.heap.size := by have := b2.size; simp at this; omega
      have BW2 := hide (BW.trans (b2.mono BW.size))
      have OW2 := hide (Mem.own_call (unhide OW0) b2)
      have HND := hide hnd
      have HBK : Hid (∀ b o, a' = some ⟨b, o, none⟩ → w1.heap.size < b) := fun b o e => by have := hbk b o e; simp at this; omega
      clear hun hnd hbk b2 OW0 BW HMA
      go_wp2
      go_loopw [7, 33] (fun v i wr => ∃ k : Nat, k ≤ M.length ∧ i = .int .i64 (k : Int) ∧ Hid (Below w.heap.size w wr) ∧ Hid (Mem.isNodes wr a' M ∧ w2.heap.size ≤ wr.heap.size) ∧ Hid (∀ g, v.ownBlock = some g → g = w1.heap.size ∨ w2.heap.size ≤ g) ∧ Hid (wr.ownsRow w1.heap.size 9 1 v (Pl.kidsL p (M.take k)).length ((Pl.kidsL p (M.take k)).map Value.string))) (fun _ i _ => M.length - (intOf i).toNat)
      case atStart => exact ⟨0, Nat.zero_le _, rfl, BW2, ⟨unhide HND, Nat.le_refl _⟩, (fun g hg => by cases hg; exact .inl rfl), OW2⟩
      case round =>
        obtain ⟨k, hk, rfl, HB, HN, HL, HW⟩ := hrel
        by_cases hlt : k < M.length
        · obtain ⟨n, hn⟩ : ∃ n, M[k]? = some n := ⟨_, List.getElem?_eq_getElem hlt⟩
          obtain ⟨b, o, ea, hb, q0, q1, q2, q3, q4⟩ := (unhide HN).1 k n hn
          have hb2 := hide (unhide HND k n hn)
          have HB2 : Hid (b < w2.heap.size) := by
            obtain ⟨b', o', e, h2, _⟩ := unhide hb2
            rw [ea] at e; cases e; exact h2
          have HB1 := hide (unhide HBK b o ea)
          have y1 : (k : Int) < (M.length : Int) := by omega
          have y3 : (0 : Int) ≤ (k : Int) := by omega
          obtain ⟨hnp, hpar, hbas⟩ := unhide HMK n (List.mem_of_getElem? hn)
          have hpa := hide (fun W => WPathI.parent_any n.path W (by have := Pl.pathB_le hnp; omega))
          have hba := hide (fun W => WPathI.base_any n.path W (by have := Pl.pathB_le hnp; omega))
          rw [hpar] at hpa
          rw [hbas] at hba
          have HLEN := hide (Pl.kids_len p M k)
          subst ea
          clear hb2
          by_cases hk0 : Pl.parent n.path = p
          · have HK := hide (Pl.kids_in hn hk0)
            rw [hk0] at hpa
            generalize Pl.base n.path = BB at hba HK
            clear hn hk0 hnp hpar hbas
            obtain ⟨qp, qk, qd, qt, qm⟩ := n
            simp only at q0 q1 q2 q3 q4 hpa hba
            have bW := (unhide HB).alloc (unhide HB).size (.cells #[.string qp, .int .i64 qk, .string qd, .int .i64 qt, .int .i64 qm] 36)
            have V1 := Mem.Blk.new wr #[.string qp, .int .i64 qk, .string qd, .int .i64 qt, .int .i64 qm] 36
            have OWa := hide ((unhide HW).alloc (.cells #[.string qp, .int .i64 qk, .string qd, .int .i64 qt, .int .i64 qm] 36))
            have NDa := hide (Mem.nodes_call (unhide HN).1 ((Below.refl _ _).alloc (Nat.le_refl _) (.cells #[.string qp, .int .i64 qk, .string qd, .int .i64 qt, .int .i64 qm] 36)))
            have hsW : wr.heap.size < (wr.alloc (.cells #[.string qp, .int .i64 qk, .string qd, .int .i64 qt, .int .i64 qm] 36)).heap.size := by simp
            have hs2 := (unhide HN).2
            clear HB HN HW
            go_wp2_with fail
            refine (unhide hpa _).mono ?_
            rintro e w3 ⟨rfl, b3⟩
            have c3 := (V1.call b3).cell 0
            simp only [kA0, kA1] at c3
            have bW3 := bW.trans (b3.mono bW.size)
            have OWb := hide (Mem.own_call (unhide OWa) b3)
            have NDb := hide (Mem.nodes_call (unhide NDa) b3)
            have hs3 := b3.size
            clear hpa bW b3 OWa NDa V1 q0 q1 q2 q3 q4
            go_wp2_with fail
            refine (unhide hba _).mono ?_
            rintro e w4 ⟨rfl, b4⟩
            have bW4 := bW3.trans (b4.mono bW3.size)
            have OWc := Mem.own_call (unhide OWb) b4
            have NDc := hide (Mem.nodes_call (unhide NDb) b4)
            have hs4 := b4.size
            clear hba bW3 b4 OWb NDb c3
            go_wp2_with (at_builtin; refine wpList_append_own_at _ rfl _ _ 46 rfl w1.heap.size 9 i0 (.string ⟨#[]⟩) 1 16 Tryz.underlying46 hi hz0 hz1 hz2 rfl (by decide) _ _ _ rfl (OWc.alloc _) ⟨w4.heap.size, 0, none⟩ 1 1 [.string BB] rfl rfl (Mem.one_new _ _ _) (fun u hu => by simp at hu; subst hu; rfl) (by have := unhide HLEN; unfold maxLen; omega) (by have := unhide HLEN; omega) (by simp; omega) ?_)
            intro v' wZ hownZ hgrow _ hloc
            have OW := hide (show wZ.ownsRow w1.heap.size 9 1 v' (Pl.kidsL p (M.take (k + 1))).length ((Pl.kidsL p (M.take (k + 1))).map Value.string) by rw [unhide HK]; exact WNamesT.own_snoc hownZ)
            have HL2 : Hid (∀ g, v'.ownBlock = some g → g = w1.heap.size ∨ w2.heap.size ≤ g) := fun g hg => by
              rcases hloc with h | h
              · exact unhide HL g (by rw [← h]; exact hg)
              · rw [h] at hg; cases hg; right; have h9 := (World.grownBy_alloc w4 (.cells #[.string BB] 9) none).size; omega
            have BZ := hide ((bW4.alloc bW4.size (.cells #[.string BB] 9)).grown hgrow (by have := bW4.size; simp; omega) (fun q hq => by have := (unhide HL q hq); have := unhide HW1; omega))
            have NZ := hide (show Mem.isNodes wZ (some ⟨b, o, none⟩) M ∧ w2.heap.size ≤ wZ.heap.size from ⟨Mem.nodes_grown (Mem.nodes_call (unhide NDc) ((Below.refl _ _).alloc (Nat.le_refl _) (.cells #[.string BB] 9))) hgrow (fun e => by have := unhide HL b e.symm; have := unhide HB2; have := unhide HB1; omega), by have := hgrow.size; simp at this; omega⟩)
            clear hownZ hgrow hloc bW4 OWc NDc
            go_wp2
            go_roundw
            case rel => exact ⟨k + 1, by omega, by go_num, BZ, NZ, HL2, OW⟩
            case measure => simp [intOf]; omega
          · have HK := hide (Pl.kids_out hn hk0)
            have t1 := WNamesT.tl_eq hk0
            generalize Pl.parent n.path = PP at hpa t1
            clear hn hk0 hnp hba hpar hbas
            obtain ⟨qp, qk, qd, qt, qm⟩ := n
            simp only at q0 q1 q2 q3 q4 hpa
            rw [← unhide HK] at HW
            have bW := (unhide HB).alloc (unhide HB).size (.cells #[.string qp, .int .i64 qk, .string qd, .int .i64 qt, .int .i64 qm] 36)
            have OWa := hide ((unhide HW).alloc (.cells #[.string qp, .int .i64 qk, .string qd, .int .i64 qt, .int .i64 qm] 36))
            have NDa := hide (Mem.nodes_call (unhide HN).1 ((Below.refl _ _).alloc (Nat.le_refl _) (.cells #[.string qp, .int .i64 qk, .string qd, .int .i64 qt, .int .i64 qm] 36)))
            have hsW : wr.heap.size < (wr.alloc (.cells #[.string qp, .int .i64 qk, .string qd, .int .i64 qt, .int .i64 qm] 36)).heap.size := by simp
            have hs2 := (unhide HN).2
            clear HB HN HW
            go_wp2_with fail
            refine (unhide hpa _).mono ?_
            rintro e w3 ⟨rfl, b3⟩
            have BZ := hide (bW.trans (b3.mono bW.size))
            have OW := hide (Mem.own_call (unhide OWa) b3)
            have NZ := hide (show Mem.isNodes w3 (some ⟨b, o, none⟩) M ∧ w2.heap.size ≤ w3.heap.size from ⟨Mem.nodes_call (unhide NDa) b3, by have := b3.size; omega⟩)
            clear hpa bW b3 OWa NDa q0 q1 q2 q3 q4
            go_wp2
            go_roundw
            case rel => exact ⟨k + 1, by omega, by go_num, BZ, NZ, HL, OW⟩
            case measure => simp [intOf]; omega
        · obtain rfl : k = M.length := by omega
          rw [List.take_length] at HW
          have y1 : ¬ ((M.length : Int) < (M.length : Int)) := by omega
          have FIN := hide (show ∃ v', u7 = v' ∧ wr.ownsRow w.heap.size 9 1 v' K.length (K.map Value.string) ∧ Below w.heap.size w wr from ⟨u7, rfl, by rw [unhide EK]; exact Mem.own_mono (unhide HW) (by have := unhide HW1; omega), unhide HB⟩)
          clear HB HN HL HW HND HBK HMK BW2 OW2 EK
          go_wp2
          go_ret
          obtain ⟨v', e, h1, h2⟩ := unhide FIN
          exact ⟨u7, rfl, by rw [e]; exact h1, h2⟩
    · have t1 : (ndk == 1) = false := by simpa using hk1
      have e : K = [] := by
        rw [unhide EO, if_neg]
        rintro ⟨_, h⟩
        rw [unhide DS h0] at h
        exact hk1 (by simpa using h)
      subst e
      clear EO ht DS DR HMF HMK hun HRT hmap
      go_wp2
      go_ret
      exact ⟨_, rfl, ⟨rfl, .inl ⟨rfl, rfl⟩⟩, bw1⟩
end WNamesF
end Go.Proofs.YtepmojmelcngeaaGreatDoor
