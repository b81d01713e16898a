/- The walk of the specification's Flatter (by genFT.py). -/
import Derived.Test.YteddcihodfkliabGreatDoorWCanS
import Derived.Test.YteddcihodfkliabGreatDoorWCopy5
import Derived.Test.YteddcihodfkliabGreatDoorMemPick
import Derived.Test.YteddcihodfkliabGreatDoorPlainPickF
import Derived.Test.YteddcihodfkliabGreatDoorWFlatI
namespace Go.Proofs.YteddcihodfkliabGreatDoor
open Go.RowKit
namespace WFlatS
theorem sizeI (w : World) : (sizeOf 58).run Tryz.prog w = .ok 2 w := by kernel_rfl
set_option linter.unusedSimpArgs false in
set_option maxRecDepth 100000 in
set_option maxHeartbeats 2000000 in
theorem flat_any (b o cap : Nat) (Is : List Pl.It) (w : World) (hl : Is.length ≤ 1048576) (hv : Mem.isItems w (some ⟨b, o, none⟩) Is) (hok : ∀ x ∈ Is, x.t.L.length ≤ 1048576 ∧ ∀ n ∈ x.t.L, n.path.size ≤ 1048576 ∧ n.data.size ≤ 1048576) (hR : ∀ x ∈ Is, Mem.okR x.t.a x.t.cap x.t.L) :
    Calls Tryz.prog 15 #[.slice (some ⟨b, o, none⟩) Is.length cap] w fun e w' => WFlat.Outs w w' (Pl.flatC (Is.map Pl.It.r)) (Pl.flatI (Is.map Pl.It.r)) e ∧ Below w.heap.size w w' := by
  have b0 : Below w.heap.size w (w.alloc (.cells #[.slice none 0 0, .int .i64 0] 34)) := (Below.refl _ _).alloc (Nat.le_refl _) _
  have V0 := Mem.Blk.new w #[.slice none 0 0, .int .i64 0] 34
  have hs0 : (w.alloc (.cells #[.slice none 0 0, .int .i64 0] 34)).heap.size = w.heap.size + 1 := by simp
  have hxl : (Is.map Pl.It.r).length = Is.length := List.length_map ..
  by_cases h400 : 400 < Is.length
  · have t0 : (400 : Int) < (Is.length : Int) := by omega
    obtain ⟨e1, e2⟩ := Pl.flat_long (xs := Is.map Pl.It.r) (by omega)
    rw [e1, e2]
    clear e1 e2 hv hok hxl hR
    go_enter Tryz.func15, Tryz.ntmps15
    have d0 := V0.cell 0
    have d1 := V0.cell 1
    have f0 := V0.fr 0
    have f1 := V0.fr 1
    have HB := hide b0
    simp only [List.getElem?_toArray, List.getElem?_cons_zero, List.getElem?_cons_succ] at d0 d1
    clear V0
    go_wp2
    refine bodyPost_ret (v := .agg #[.slice none 0 0, .int .i64 2]) (by simp [results, Tryz.results15, go_sem, d0, d1]) rfl ⟨⟨_, [], rfl, Mem.Io.nil _ _, rfl⟩, ?_⟩
    first | exact ((unhide HB).setCell (Nat.le_refl _) _).setCell (Nat.le_refl _) _ | exact (unhide HB).setCell (Nat.le_refl _) _ | exact (Below.refl _ _).alloc (Nat.le_refl _) _ | skip
  have t0 : ¬ (400 : Int) < (Is.length : Int) := by omega
  have hnr := hide (fun W (bb : Below w.heap.size w W) => WNestS.right_any (some ⟨b, o, none⟩) cap Is W hl (Mem.items_call hv bb) hok)
  cases hF : Pl.nest (Pl.rowO (Is.map Pl.It.r)) with
  | none =>
    obtain ⟨e1, e2⟩ := Pl.flat_bad (xs := Is.map Pl.It.r) (by omega) hF
    rw [e1, e2]
    rw [hF] at hnr
    clear e1 e2 hv hok hxl hF hR
    go_enter Tryz.func15, Tryz.ntmps15
    go_wp2_with fail
    refine (unhide hnr _ b0).mono ?_
    rintro e w1 ⟨rfl, b1⟩
    have bw1 := b0.trans (b1.mono b0.size)
    have V1 := V0.call b1
    clear hnr b0 V0 b1 hs0
    have d0 := V1.cell 0
    have d1 := V1.cell 1
    have f0 := V1.fr 0
    have f1 := V1.fr 1
    have HB := hide bw1
    simp only [List.getElem?_toArray, List.getElem?_cons_zero, List.getElem?_cons_succ] at d0 d1
    clear V1
    go_wp2
    refine bodyPost_ret (v := .agg #[.slice none 0 0, .int .i64 1]) (by simp [results, Tryz.results15, go_sem, d0, d1]) rfl ⟨⟨_, [], rfl, Mem.Io.nil _ _, rfl⟩, ?_⟩
    first | exact ((unhide HB).setCell (Nat.le_refl _) _).setCell (Nat.le_refl _) _ | exact (unhide HB).setCell (Nat.le_refl _) _ | exact (Below.refl _ _).alloc (Nat.le_refl _) _ | skip
  | some F =>
    obtain ⟨L, k, hks, hfl, hko, hnx⟩ := Pl.nest_fill hF
    have hl12 := Pl.nest_len hF
    rw [hF] at hnr
    have hd : k.shape.depth ≤ 3 := by rw [hks]; exact (Pl.nest_yes hF).2.2
    have hla := hide (fun W (bb : Below w.heap.size w W) => last_any (some ⟨b, o, none⟩) cap Is (by omega) hok L k W hko hd hfl (Mem.items_call hv bb))
    cases hK : k.flatK with
    | none =>
      rw [last_neg hK] at hla
      obtain ⟨e1, e2⟩ := Pl.flat_none hl12 hnx hK
      rw [e1, e2]
      clear e1 e2 hv hok hxl hF hks hfl hko hnx hK hd hR
      go_enter Tryz.func15, Tryz.ntmps15
      go_wp2_with fail
      refine (unhide hnr _ b0).mono ?_
      rintro e w1 ⟨rfl, b1⟩
      have bw1 := b0.trans (b1.mono b0.size)
      have V1 := V0.call b1
      clear hnr b0 V0 b1 hs0
      go_wp2_with fail
      refine (unhide hla _ bw1).mono ?_
      rintro e w2 ⟨rfl, b2⟩
      have bw2 := bw1.trans (b2.mono bw1.size)
      have V2 := V1.call b2
      clear hla bw1 V1 b2
      have d0 := V2.cell 0
      have d1 := V2.cell 1
      have f0 := V2.fr 0
      have f1 := V2.fr 1
      have HB := hide bw2
      simp only [List.getElem?_toArray, List.getElem?_cons_zero, List.getElem?_cons_succ] at d0 d1
      clear V2
      go_wp2
      refine bodyPost_ret (v := .agg #[.slice none 0 0, .int .i64 10]) (by simp [results, Tryz.results15, go_sem, d0, d1]) rfl ⟨⟨_, [], rfl, Mem.Io.nil _ _, rfl⟩, ?_⟩
      first | exact ((unhide HB).setCell (Nat.le_refl _) _).setCell (Nat.le_refl _) _ | exact (unhide HB).setCell (Nat.le_refl _) _ | exact (Below.refl _ _).alloc (Nat.le_refl _) _ | skip
    | some K' =>
      rw [last_pos hK] at hla
      obtain ⟨e1, e2⟩ := Pl.flat_some hl12 hnx hK
      rw [e1, e2]
      obtain ⟨x0, x1, -, hx0, hx1, -, -, -, hm0, hm1, hsum, hk4, hk14, hk2, hkl⟩ := Pl.pick_flat hfl hko hK
      have HPK := hide (fun (Ds : List Pl.It) (h : Ds.map Pl.It.r = Is.map Pl.It.r) => Pl.pick_flat (hfl.trans h.symm) hko hK)
      generalize k.splitL.2.2.len = n1 at hm1 hsum hk14 HPK
      generalize k.len = n0 at hm0 hsum hk4 hk2 HPK
      generalize K'.len = n2 at hsum HPK ⊢
      generalize K'.flat = KF at HPK ⊢
      generalize 1 + k.splitL.1.sz = kk at hla hx1 hkl HPK
      have HX0 := hide (fun W (bb : Below w.heap.size w W) => (Mem.items_call hv bb 0 x0 hx0).1)
      have HX1 := hide (fun W (bb : Below w.heap.size w W) => (Mem.items_call hv bb kk x1 hx1).1)
      have u1 : ¬ (kk : Int) < 0 := by omega
      have u2 : (0 : Int) ≤ (kk : Int) := by omega
      have u3 : (kk : Int) < (Is.length : Int) := by omega
      have u4 : (0 : Int) < (Is.length : Int) := by omega
      have hcp := hide (fun W (bb : Below w.heap.size w W) => WCopy5.copy_any b o cap Is (by omega) (by omega) (fun x hx => by have := (Pl.Fx.ok_mem hko x.r (by rw [hfl]; exact List.mem_map.2 ⟨x, hx, rfl⟩)).1; unfold Pl.treeB at this; have h40 := of_decide_eq_true ((Bool.and_eq_true _ _).mp this).1; exact Nat.le_trans h40 (by decide)) hR W (Mem.items_call hv bb))
      clear e1 e2 hv hok hF hks hfl hko hnx hK hd hR hx0 hx1
      go_enter Tryz.func15, Tryz.ntmps15
      go_wp2_with fail
      refine (unhide hnr _ b0).mono ?_
      rintro e w1 ⟨rfl, b1⟩
      have bw1 := b0.trans (b1.mono b0.size)
      have V1 := V0.call b1
      have hz1 := b1.size
      clear hnr b0 V0 b1
      go_wp2_with fail
      refine (unhide hla _ bw1).mono ?_
      rintro e w2 ⟨rfl, b2⟩
      have bw2 := bw1.trans (b2.mono bw1.size)
      have V2 := V1.call b2
      have hz2 := b2.size
      clear hla bw1 V1 b2
      go_wp2_with fail
      refine (unhide hcp _ bw2).mono ?_
      rintro e w3 ⟨g, cap3, Ds, rfl, hg, io3, hm3, b3⟩
      have bw3 := bw2.trans (b3.mono bw2.size)
      have V3 := V2.call b3
      have hz3 := b3.size
      have hDl : Ds.length = Is.length := by have := congrArg List.length hm3; rw [List.length_map, List.length_map] at this; exact this
      obtain ⟨d, -, Rs, -, -, hEs, hdL, hRs, -, -, -, -, -, -, -⟩ := unhide HPK Ds hm3
      have hcap : Is.length ≤ cap3 := by
        rcases io3.row.2 with ⟨e, _⟩ | ⟨q, c, cur, e, hb, hq, hc, hmm, hss, htt⟩
        · cases e
        · injection e with e3 e4 e5
          omega
      obtain ⟨i0, hi, hz0, hz1', hz2'⟩ := info_parts WCopy5.infoI
      have hS1 : ∀ W, (Instr.slice 26 (.slice (some ⟨g, 0, none⟩) Is.length cap3) none (some (.int .i64 (kk : Int))) none).run Tryz.prog W = .ok (.slice (some ⟨g, 0, none⟩) kk cap3) W := fun W => Mem.slice_hi Tryz.underlying26 sizeI W _ _ _ _ (by omega) (by omega)
      have hS2 : ∀ W, (Instr.slice 26 (.slice (some ⟨g, 0, none⟩) Is.length cap3) (some (.int .i64 ((kk : Int) + 1))) none none).run Tryz.prog W = .ok (.slice (some ⟨g, (kk + 1) * 2, none⟩) (Is.length - (kk + 1)) (cap3 - (kk + 1))) W := fun W => by
        have := Mem.slice_lo (P := Tryz.prog) Tryz.underlying26 sizeI W g Is.length cap3 (kk + 1) (by omega) hcap
        rw [Int.natCast_add] at this
        exact this
      have bA : Below w3.heap.size w3 (w3.alloc (.cells #[] 58)) := (Below.refl _ _).alloc (Nat.le_refl _) _
      have O0 : Hid ((w3.alloc (.cells #[] 58)).ownsRow w3.heap.size 58 2 (.slice (some ⟨w3.heap.size, 0, none⟩) 0 0) 0 []) := ⟨rfl, .inr ⟨w3.heap.size, 0, #[], rfl, Nat.le_refl _, heap_alloc_new _ _, Nat.le_refl _, Nat.zero_le _, rfl, rfl⟩⟩
      have HC1 : Hid (∀ j u, (Pl.cellsI (Ds.take kk))[j]? = some u → (w3.alloc (.cells #[] 58)).cell? ((⟨g, 0, none⟩ : Addr).add j) = some u) := fun j u hj => by
        have hlt := (List.getElem?_eq_some_iff.1 hj).1
        rw [Pl.cellsI_len, List.length_take] at hlt
        refine World.ownsRow.cells (io3.call bA).row (g := g) rfl j u ?_
        rw [← Pl.cellsI_take Ds kk (by omega), List.getElem?_take, if_pos (by omega)] at hj
        exact hj
      have HC2 : Hid (∀ W, Below w3.heap.size w3 W → ∀ j u, (Pl.cellsI (Ds.drop (kk + 1)))[j]? = some u → W.cell? ((⟨g, (kk + 1) * 2, none⟩ : Addr).add j) = some u) := fun W bb j u hj => by
        rw [← Pl.cellsI_drop, List.getElem?_drop] at hj
        have h5 := World.ownsRow.cells (io3.call bb).row (g := g) rfl ((kk + 1) * 2 + j) u hj
        rw [Mem.add_lit] at h5
        have ea : (⟨g, (kk + 1) * 2, none⟩ : Addr).add j = ⟨g, (kk + 1) * 2 + j, none⟩ := by unfold Addr.add; split <;> simp_all
        rw [ea]
        exact h5
      have hT1 : (Ds.take kk).length = kk := by rw [List.length_take]; omega
      have hT2 : (Ds.drop (kk + 1)).length = Is.length - (kk + 1) := by rw [List.length_drop]; omega
      have HL1 : Hid ((Pl.cellsI (Ds.take kk)).length = kk * 2) := by rw [Pl.cellsI_len, hT1]; rfl
      have HL2 : Hid ((Pl.cellsI (Ds.drop (kk + 1))).length = (Is.length - (kk + 1)) * 2) := by rw [Pl.cellsI_len, hT2]; rfl
      have HIO := hide io3
      have HEQ := hide hEs
      have HRS := hide hRs
      have HDL := hide hdL
      have HTT := hide (And.intro hT1 hT2)
      clear hcp io3 hm3 V2 b3 bw2 HPK hEs hRs hdL hT1 hT2 hxl
      go_wp2_with (at_builtin; refine Mem.wpList_append_far _ rfl _ _ 26 rfl w3.heap.size 58 i0 (.agg #[.int .i64 0, .slice none 0 0]) 2 32 Tryz.underlying26 hi hz0 hz1' hz2' rfl (by decide) _ _ _ rfl (unhide O0) ⟨g, 0, none⟩ kk cap3 (Pl.cellsI (Ds.take kk)) rfl (unhide HL1) (unhide HC1) (Pl.cellsI_one _) (by unfold maxLen; omega) (by omega) (by simp) ?_)
      intro v1 w5 own1 gr1 far1
      obtain ⟨a5, c5, rfl⟩ := Mem.own_shape own1
      have bB : Below w3.heap.size w3 w5 := bA.grown gr1 (by simp) (fun q hq => by cases hq; exact Nat.le_refl _)
      have O1 := hide own1
      have HC3 := hide (unhide HC2 w5 bB)
      have hz5 := bB.size
      clear own1 gr1 far1 O0 HC1 HC2 bA
      go_wp2_with (at_builtin; refine Mem.wpList_append_far _ rfl _ _ 26 rfl w3.heap.size 58 i0 (.agg #[.int .i64 0, .slice none 0 0]) 2 32 Tryz.underlying26 hi hz0 hz1' hz2' rfl (by decide) _ _ _ rfl (unhide O1) ⟨g, (kk + 1) * 2, none⟩ (Is.length - (kk + 1)) (cap3 - (kk + 1)) (Pl.cellsI (Ds.drop (kk + 1))) rfl (unhide HL2) (unhide HC3) (Pl.cellsI_one _) (by unfold maxLen; omega) (by omega) (by omega) ?_)
      intro v2 w6 own2 gr2 far2
      have bC : Below w3.heap.size w3 w6 := bB.grown gr2 hz5 (fun q hq => (World.ownsRow.lt (unhide O1) q hq).1)
      have hn2 : kk + (Is.length - (kk + 1)) = (d :: Rs).length := by rw [← unhide HEQ, List.length_append, (unhide HTT).1, (unhide HTT).2]
      rw [← Pl.cellsI_app, unhide HEQ, hn2] at own2
      have io6 := (unhide HIO).pick bC hz3 own2 (fun i => if i < kk then i else i + 1) (Pl.pick_inj kk) (fun i x hx => by
        rw [← unhide HEQ] at hx
        exact Pl.pick_get hx (by omega))
      have hsh : ∃ g2 cap2, v2 = .slice (some ⟨g2, 0, none⟩) (d :: Rs).length cap2 := by
        obtain ⟨g2, cap2, e, -⟩ := io6.there (by simp)
        exact ⟨g2, cap2, e⟩
      obtain ⟨g2, cap2, rfl⟩ := hsh
      obtain ⟨k0, f0⟩ := Mem.own_cell io6.row (k := 0) (u := .int .i64 d.m) rfl
      have bw6 := bw3.trans (bC.mono bw3.size)
      obtain ⟨b', o', e, -, q0, -⟩ := unhide HX0 w6 bw6
      cases e
      obtain ⟨b', o', e, -, q1, -⟩ := unhide HX1 w6 bw6
      cases e
      rw [hm0] at q0
      rw [hm1] at q1
      simp only [Nat.zero_mul, Nat.add_zero] at q0
      have hg2 := (World.ownsRow.lt io6.row g2 rfl)
      have hz6 := bC.size
      have V6 := V3.call bC
      have hgw : w.heap.size < g2 := by omega
      have W1 := io6.many (n2 : Int)
      have VS : Mem.Blk (w6.setCell ⟨g2, 0, none⟩ (.int .i64 (n2 : Int))) w.heap.size #[.slice none 0 0, .int .i64 0] 34 := (heap_setCell_other _ _ _ _ (by show w.heap.size ≠ g2; omega)).trans V6
      have BS := bw6.setCell (p := ⟨g2, 0, none⟩) (Nat.le_of_lt hgw) (.int .i64 (n2 : Int))
      have HW := hide W1
      have HBS := hide BS
      have HVS := hide VS
      have hl0 : (0 : Int) < ((d :: Rs).length : Int) := by rw [List.length_cons]; omega
      generalize hln : (d :: Rs).length = ln at *
      clear own2 gr2 far2 O1 HC3 W1 BS VS bB bC V3 V6 HIO HEQ HTT HL1 HL2 HX0 HX1 io6 hS1 hS2 bw3 bw6
      go_wp2_with fail
      go_region
      generalize w6.setCell ⟨g2, 0, none⟩ (.int .i64 (n2 : Int)) = w7 at HW HBS HVS ⊢
      have bD : Below w7.heap.size w7 w7.drew := Mem.below_drewN (Below.refl _ _) 1
      have V7 := (unhide HVS).call bD
      have HB7 := hide ((unhide HBS).trans (bD.mono (unhide HBS).size))
      have IO7 := hide (((((unhide HW).call bD).set ⟨w.heap.size, 0, none⟩ (.slice (some ⟨g2, 0, none⟩) ln cap2) (by show w.heap.size < _; omega)).set ⟨w.heap.size, 1, none⟩ (.int .i64 0) (by show w.heap.size < _; omega)).mono (show w.heap.size ≤ w2.heap.size by omega))
      generalize w7.drew = w8 at V7 HB7 IO7 ⊢
      have d0 := V7.cell 0
      have d1 := V7.cell 1
      have f0 := V7.fr 0
      have f1 := V7.fr 1
      simp only [List.getElem?_toArray, List.getElem?_cons_zero, List.getElem?_cons_succ] at d0 d1
      have HMM : Hid (((⟨(n2 : Int), d.t⟩ : Pl.It) :: Rs).map Pl.It.r = ((n2 : Int), []) :: KF) := hide (by
        rw [List.map_cons, unhide HRS]
        show ((n2 : Int), d.t.L) :: KF = _
        rw [unhide HDL])
      clear HW HBS HVS bD V7 k0 q0 q1
      go_wp2
      refine bodyPost_ret (v := .agg #[.slice (some ⟨g2, 0, none⟩) ln cap2, .int .i64 0]) (by simp [results, Tryz.results15, go_sem, d0, d1]) rfl ⟨⟨_, _, rfl, unhide IO7, unhide HMM⟩, ?_⟩
      exact ((unhide HB7).setCell (Nat.le_refl _) _).setCell (Nat.le_refl _) _
end WFlatS
end Go.Proofs.YteddcihodfkliabGreatDoor
