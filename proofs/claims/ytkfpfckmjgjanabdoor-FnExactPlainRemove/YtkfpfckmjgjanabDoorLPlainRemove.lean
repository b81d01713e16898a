/- The walk of the law FnExactPlainRemove, over the walks of the two functions and of the laws' own. -/
import Derived.Test.YtkfpfckmjgjanabDoorWRemoveF
import Derived.Test.YtkfpfckmjgjanabDoorWRemoveS
import Derived.Test.YtkfpfckmjgjanabDoorG19
import Derived.Test.YtkfpfckmjgjanabDoorG26
import Derived.Test.YtkfpfckmjgjanabDoorOpenTree
namespace Go.Proofs.YtkfpfckmjgjanabDoor
open Go.RowKit
namespace fnExactPlainRemove
set_option linter.unusedSimpArgs false in
set_option maxRecDepth 100000 in
set_option maxHeartbeats 4000000 in
theorem walk (a : Option Addr) (L : List Pl.Nd) (cap : Nat) (p : ByteArray) (w : World) (ok : OpenT.OkT w a L) (_okp : p.size ≤ maxLen) (r1 r2 r3 : TypeId) (x1 x2 x3 : Value) (hE : WNodesI.Errs w r1 r2 r3 x1 x2 x3) :
    Calls Tryd.prog 7 #[.agg #[.slice a L.length cap], .string p] w fun e w' => e = .returned (.bool true) ∧ Below w.heap.size w w' := by
  obtain ⟨hl, hv, hok⟩ := ok
  have b0 : Below w.heap.size w (w.alloc (.cells #[.slice a L.length cap] 35)) := (Below.refl _ _).alloc (Nat.le_refl _) _
  have hsz := hide (fun W (b : Below w.heap.size w W) => WLaw.szTree_any a cap L W hl (Mem.nodes_call hv b) (fun n hn => ⟨(hok n hn).1, (hok n hn).2.1⟩))
  have htt := hide (fun W (b : Below w.heap.size w W) (h2 : L.length ≤ 1048576) => WLaw.toTree_row a cap L W h2 (Mem.nodes_call hv b))
  have heq := hide (fun (g g' : Nat) W (h2 : L.length ≤ 1048576) h3 h4 => WLaw.eqTree_any (some ⟨g, 0, none⟩) (some ⟨g', 0, none⟩) L.length L.length L W h2 h3 h4)
  have hs := hide (fun (g : Nat) W (h2 : L.length ≤ 1048576) h3 h4 (hp : p.size ≤ 1048576) => WPanic.remove_spec (some ⟨g, 0, none⟩) L.length L p W h2 h3 h4 hp)
  have hi := hide (fun (g : Nat) W (h2 : L.length ≤ 1048576) h3 h4 (hp : p.size ≤ 1048576) h5 => WPanic.remove_impl (some ⟨g, 0, none⟩) L.length L p W h2 h3 h4 r1 r2 r3 x1 x2 x3 h5)
  have HOL : Hid (L.length ≤ 1048576 → (Pl.chgO L ⟨p, 1, ⟨#[]⟩, 0, 0⟩ (Pl.remC L p) (Pl.offL p L)).length ≤ 1048576) := (fun h => Pl.chgO_len (Nat.le_trans (Pl.off_len p L) h))
  generalize Pl.chgO L ⟨p, 1, ⟨#[]⟩, 0, 0⟩ (Pl.remC L p) (Pl.offL p L) = O at hs hi HOL
  generalize Pl.chgC L ⟨p, 1, ⟨#[]⟩, 0, 0⟩ (Pl.remC L p) = c at hs hi
  have heo := hide (fun (ag aw : Option Addr) (cg cw : Nat) W (h2 : O.length ≤ 1048576) h3 h4 => WMarkN.eqO_any ag aw cg cw c O W h2 h3 h4)
  have hmx := hide (fun (g : Nat) (cur : Array Value) W (h2 : L.length ≤ 1048576) h3 h4 => WMarkN.layT_any g L.length L.length 1 cur W h2 (by omega) (by omega) h3 h4)
  have hmo := hide (fun (ag : Option Addr) (cg B : Nat) W (h2 : O.length ≤ 1048576) h3 => WMarkN.layO_own ag O.length cg 1 B c O W h2 (by omega) (by omega) h3)
  have hho := hide (fun (ag : Option Addr) (cg : Nat) W (h2 : O.length ≤ 1048576) h3 => WMarkN.heldO_any ag O.length cg 1 c W h2 (by omega) (by omega) h3)
  have HE := hide hE
  have A0 := Mem.Blk.new w #[.slice a L.length cap] 35
  clear hv hok hE
  by_cases hz : 1048576 < p.size
  · have t0 : (1048576 : Int) < (p.size : Int) := by omega
    go_enter Tryd.func7, Tryd.ntmps7
    go_wp2
    go_ret
    exact ⟨rfl, b0⟩
  have t0 : ¬ (1048576 : Int) < (p.size : Int) := by omega
  have hp : p.size ≤ 1048576 := by omega
  clear hz
  have HP := hide hp
  clear hp
  go_enter Tryd.func7, Tryd.ntmps7
  go_wp2_with fail
  refine (unhide hsz _ b0).mono ?_
  rintro e w1 ⟨⟨r, rfl, hr⟩, b1⟩
  have bw1 := b0.trans (b1.mono b0.size)
  have A1 := A0.call b1
  clear b0 b1 A0 hsz
  rcases hr with rfl | ⟨hr0, hr1, hl2, hz⟩
  · clear A1
    go_wp2
    go_ret
    exact ⟨rfl, bw1⟩
  have hr2 : ¬ r < 0 := by omega
  have HZ := hide hz
  have hol := unhide HOL hl2
  clear hz HOL
  have c0 := A1.cell 0
  simp only [kA0, kA1, kA2] at c0
  go_wp2_with fail
  refine (unhide htt _ bw1 hl2).mono ?_
  rintro e w2 ⟨g1, rfl, -, -, hn1, b2⟩
  have bw2 := bw1.trans (b2.mono bw1.size)
  have A2 := A1.call b2
  have HN1 := hide hn1
  clear bw1 b2 A1 c0 hn1
  go_wp2_with fail
  refine (unhide hs g1 _ hl2 (unhide HN1) (unhide HZ) (unhide HP)).mono ?_
  rintro e w3 ⟨vw, rfl, ownw, b3⟩
  obtain ⟨aw, cw, rfl⟩ := Mem.own_shape ownw
  have S3 : WMarkN.W0 w (w3.alloc (.cells #[.slice aw O.length cw, .int .i64 c] 41)) a L.length cap w3.heap.size w2.heap.size aw cw O c :=
    ⟨(bw2.trans (b3.mono bw2.size)).alloc (bw2.trans (b3.mono bw2.size)).size _, (A2.call b3).alloc _, Mem.Blk.new _ _ _, Mem.ownN_alloc ownw _, A2.lt, fun g hg => (Mem.ownN_lt ownw g hg).2, Nat.lt_of_lt_of_le A2.lt b3.size⟩
  have hY : (w3.alloc (.cells #[.slice aw O.length cw, .int .i64 c] 41)).heap.size = w3.heap.size + 1 := by simp
  clear bw2 b3 A2 HN1 hs ownw
  have c0 := S3.arg.cell 0
  simp only [kA0, kA1, kA2] at c0
  have K3 := hide S3
  clear S3
  go_wp2_with fail
  refine (unhide htt _ (unhide K3).bel hl2).mono ?_
  rintro e w5 ⟨g2, rfl, hg2, ⟨cur, hrow, hcur⟩, hn2, b5⟩
  have S5 := (unhide K3).call b5
  have hgY : w3.heap.size < g2 := by omega
  have hYw : w3.heap.size < w5.heap.size := by have := b5.size; omega
  generalize w3.heap.size = Y at S5 hgY hYw ⊢
  generalize w2.heap.size = B1 at S5
  have b6 : Below w5.heap.size w5 (w5.alloc (.cells #[.slice (some ⟨g2, 0, none⟩) L.length L.length] 39)) := (Below.refl _ _).alloc (Nat.le_refl _) _
  have S6 := hide (S5.call b6)
  have X6 : Hid (WMarkN.X0 (w5.alloc (.cells #[.slice (some ⟨g2, 0, none⟩) L.length L.length] 39)) w5.heap.size g2 L cur) := ⟨Mem.Blk.new _ _ _, Mem.Blk.alloc hrow _, hcur, Mem.nodes_call hn2 b6, (Array.getElem?_eq_some_iff.1 hrow).1⟩
  have hE6 := hide ((unhide HE).call (unhide S6).bel)
  have hX : (w5.alloc (.cells #[.slice (some ⟨g2, 0, none⟩) L.length L.length] 39)).heap.size = w5.heap.size + 1 := by simp
  clear K3 b5 S5 b6 hrow hcur hn2 hg2 hY c0
  go_wp2_with fail
  refine (unhide hi g2 _ hl2 (unhide X6).nodes (unhide HZ) (unhide HP) (unhide hE6)).mono ?_
  rintro e w7 ⟨vg, rfl, owng, b7⟩
  obtain ⟨ag, cg, rfl⟩ := Mem.own_shape owng
  rw [hX] at owng
  have S7 := (unhide S6).call b7
  have X7 := (unhide X6).call b7
  have hX7 : w5.heap.size + 1 ≤ w7.heap.size := by have := b7.size; omega
  clear S6 X6 hE6 b7 hX
  generalize w5.heap.size = X at X7 owng hX7 hYw ⊢
  have b8 : Below w7.heap.size w7 (w7.alloc (.cells #[.slice ag O.length cg, .int .i64 c] 41)) := (Below.refl _ _).alloc (Nat.le_refl _) _
  have S8 := hide (S7.call b8)
  have X8 := hide (X7.call b8)
  have G8 : Hid (WMarkN.G0 (w7.alloc (.cells #[.slice ag O.length cg, .int .i64 c] 41)) w7.heap.size (X + 1) ag cg O c) := ⟨Mem.Blk.new _ _ _, Mem.ownN_alloc owng _, fun g hg => (Mem.ownN_lt owng g hg).2, hX7⟩
  clear S7 X7 b8 owng
  have d0 := (unhide S8).var.cell 0
  have d1 := (unhide S8).var.cell 1
  simp only [kA0, kA1, kA2] at d0 d1
  go_wp2_with fail
  refine (unhide heo ag aw cg cw _ hol (Mem.ownN_nodes (unhide G8).own).2 (Mem.ownN_nodes (unhide S8).own).2).mono ?_
  rintro e w6 ⟨rfl, b9⟩
  have S9 := (unhide S8).call b9
  have X9 := (unhide X8).call b9
  have G9 := hide ((unhide G8).call b9)
  generalize w7.heap.size = G at G9 hX7 ⊢
  clear S8 X8 G8 b9 d0 d1
  have c0 := S9.arg.cell 0
  simp only [kA0, kA1, kA2] at c0
  have d0 := X9.var.cell 0
  simp only [kA0, kA1, kA2] at d0
  have hc0 : w.heap.size < w6.heap.size := S9.arg.lt
  have hd0 : X < w6.heap.size := X9.var.lt
  have K9 := hide S9
  have KX := hide X9
  have MK : Hid (∀ W', Below w6.heap.size w6 W' → (Below w6.heap.size w6 W' ∧ W'.cell? ⟨w.heap.size, 0, none⟩ = some (.slice a L.length cap) ∧ W'.cell? ⟨X, 0, none⟩ = some (.slice (some ⟨g2, 0, none⟩) L.length L.length))) := fun W' hb' => ⟨hb', (hb'.cell (p := ⟨w.heap.size, 0, none⟩) hc0).trans c0, (hb'.cell (p := ⟨X, 0, none⟩) hd0).trans d0⟩
  clear c0 d0 hc0 hd0 S9 X9
  go_wp2_with fail
  refine wp_region_held_drew (S := fun W' => Below w6.heap.size w6 W' ∧ W'.cell? ⟨w.heap.size, 0, none⟩ = some (.slice a L.length cap) ∧ W'.cell? ⟨X, 0, none⟩ = some (.slice (some ⟨g2, 0, none⟩) L.length L.length)) (by kernel_rfl) ?_ (fun hHeld => ?_)
  · exact unhide MK _ ((Below.refl _ _).trans ⟨rfl, rfl, rfl, Nat.le_refl _, fun _ _ => rfl⟩)
  refine wpAnyH_take (i := 0) (v := ?_) rfl (by kernel_rfl) (by kernel_rfl) (by kernel_rfl) (fun _ _ _ h => h) (Or.inl ⟨by rfl, ?_⟩) (by assumption) ?_
  rotate_left
  · (intro w hSw; (try dsimp only at hSw); go_simp; (try with_reducible rfl))
  try simp only [Act.put, kB0, kB1, kB2, kB3, kB4, kB5]
  refine wpAnyH_take (i := 1) (v := ?_) rfl (by kernel_rfl) (by kernel_rfl) (by kernel_rfl) (fun _ _ _ h => h) (Or.inl ⟨by rfl, ?_⟩) (by assumption) ?_
  rotate_left
  · (intro w hSw; (try dsimp only at hSw); go_simp; (try with_reducible rfl))
  try simp only [Act.put, kB0, kB1, kB2, kB3, kB4, kB5]
  refine wpAnyH_ready (rs := [2]) (by kernel_rfl) (by simp) ?_
  refine AllReadyH.cons rfl (fun K hK => ?_) AllReadyH.nil
  go_simp
  refine (unhide htt _ ((unhide K9).bel.trans (hHeld.1.mono (unhide K9).bel.size)) hl2).mono ?_
  rintro e wX ⟨g3, rfl, -, -, hn3, bX⟩
  refine hK.out _ _ ?_ (fun hHeld => ?_)
  · exact unhide MK _ (hHeld.1.trans (bX.mono hHeld.1.size))
  clear hK K
  try simp only [Act.put, kB0, kB1, kB2, kB3, kB4, kB5]
  refine wpAnyH_ready (rs := [3]) (by kernel_rfl) (by simp) ?_
  refine AllReadyH.cons rfl (fun K hK => ?_) AllReadyH.nil
  go_simp
  refine (unhide heq g2 g3 _ hl2 (Mem.nodes_call (unhide KX).nodes hHeld.1) hn3).mono ?_
  rintro e wX ⟨rfl, bX⟩
  refine hK.out _ _ ?_ (fun hHeld => ?_)
  · exact unhide MK _ (hHeld.1.trans (bX.mono hHeld.1.size))
  clear hK K
  try simp only [Act.put, kB0, kB1, kB2, kB3, kB4, kB5]
  refine wpAnyH_take (i := 4) (v := ?_) rfl (by kernel_rfl) (by kernel_rfl) (by kernel_rfl) (fun _ _ _ h => h) (Or.inl ⟨by rfl, ?_⟩) (by assumption) ?_
  rotate_left
  · (intro w hSw; (try dsimp only at hSw); go_simp; (try with_reducible rfl))
  try simp only [Act.put, kB0, kB1, kB2, kB3, kB4, kB5]
  refine wpAnyH_done (by kernel_rfl) ?_ _
  have S10 := hide ((unhide K9).call hHeld.1)
  have X10 := hide ((unhide KX).call hHeld.1)
  have G10 := hide ((unhide G9).call hHeld.1)
  clear K9 KX G9 MK hn3 bX heq
  have d0 := (unhide X10).var.cell 0
  simp only [kA0, kA1, kA2] at d0
  clear hHeld
  go_wp2_with fail
  refine (unhide hmx g2 cur _ hl2 (unhide X10).row (by rw [(unhide X10).size]; exact Nat.le_refl _)).mono ?_
  rintro e w11 ⟨rfl, hlaid⟩
  have S11 := (unhide S10).grown hlaid.grown (fun g hg => by cases hg; exact hgY)
  have G11 := (unhide G10).grown hlaid.grown (fun g hg => by cases hg; have := (unhide X10).lt; omega)
  have HK0 : ¬ ((1 + 5 * L.length : Nat) : Int) < 0 := by omega
  clear S10 X10 G10 hlaid hmx d0
  generalize 1 + 5 * L.length = kk at HK0 ⊢
  have d0 := S11.var.cell 0
  have d1 := S11.var.cell 1
  simp only [kA0, kA1, kA2] at d0 d1
  have e0 := G11.var.cell 0
  have e1 := G11.var.cell 1
  simp only [kA0, kA1, kA2] at e0 e1
  have S12 := hide S11
  have G12 := hide G11
  clear S11 G11
  go_wp2_with fail
  refine (unhide heo ag aw cg cw _ hol (Mem.ownN_nodes (unhide G12).own).2 (Mem.ownN_nodes (unhide S12).own).2).mono ?_
  rintro e w13 ⟨rfl, b13⟩
  have S13 := hide ((unhide S12).call b13)
  have G13 := (unhide G12).call b13
  clear S12 G12 b13 d0 d1 e0 e1
  have e0 := G13.var.cell 0
  have e1 := G13.var.cell 1
  simp only [kA0, kA1, kA2] at e0 e1
  have G14 := hide G13
  clear G13
  go_wp2_with fail
  refine (unhide hmo ag cg _ _ hol (unhide G14).own).mono ?_
  rintro e w15 ⟨rfl, hn15, hg15⟩
  have HLG := hide (unhide G14).hi
  have HBG := hide (fun g hg => (Mem.ownN_lt (unhide G14).own g hg).1)
  have S15 := hide ((unhide S13).grown hg15 (fun g hg => by have := unhide HBG g hg; omega))
  have M15 : WMarkN.M0 w15 G ag O.length cg 1 c := ⟨(unhide G14).var.grown hg15 (fun e => by have := unhide HLG _ e.symm; omega), hn15⟩
  have HM0 : ¬ ((1 + 5 * O.length : Nat) : Int) < 0 := by omega
  clear S13 G14 hn15 hg15 hmo e0 e1 HLG HBG
  have e0 := M15.var.cell 0
  have e1 := M15.var.cell 1
  simp only [kA0, kA1, kA2] at e0 e1
  have M16 := hide M15
  clear M15
  generalize 1 + 5 * O.length = mm at HM0 hho ⊢
  go_wp2_with fail
  refine (unhide hho ag cg _ hol (unhide M16).nodes).mono ?_
  rintro e w17 ⟨rfl, b17⟩
  have S17 := hide ((unhide S15).call b17)
  have M17 := hide ((unhide M16).call b17)
  clear S15 M16 b17 e0 e1
  have c0 := (unhide S17).arg.cell 0
  simp only [kA0, kA1, kA2] at c0
  go_wp2_with fail
  refine (unhide htt _ (unhide S17).bel hl2).mono ?_
  rintro e w18 ⟨g4, rfl, -, -, hn4, b18⟩
  have S18 := hide ((unhide S17).call b18)
  have M18 := hide ((unhide M17).call b18)
  have HN4 := hide hn4
  have hE18 := hide ((unhide HE).call (unhide S18).bel)
  clear S17 M17 b18 hn4 c0
  go_wp2_with fail
  refine (unhide hi g4 _ hl2 (unhide HN4) (unhide HZ) (unhide HP) (unhide hE18)).mono ?_
  rintro e w19 ⟨vh, rfl, ownh, b19⟩
  obtain ⟨ah, ch, rfl⟩ := Mem.own_shape ownh
  have b20 : Below w19.heap.size w19 (w19.alloc (.cells #[.slice ah O.length ch, .int .i64 c] 41)) := (Below.refl _ _).alloc (Nat.le_refl _) _
  have S20 := hide (((unhide S18).call b19).call b20)
  have M20 := hide (((unhide M18).call b19).call b20)
  have OH := hide (Mem.ownN_nodes (Mem.ownN_alloc ownh (.cells #[.slice ah O.length ch, .int .i64 c] 41))).2
  clear S18 M18 b19 b20 ownh HN4 hE18
  have d0 := (unhide S20).var.cell 0
  have d1 := (unhide S20).var.cell 1
  simp only [kA0, kA1, kA2] at d0 d1
  go_wp2_with fail
  refine (unhide heo ah aw ch cw _ hol (unhide OH) (Mem.ownN_nodes (unhide S20).own).2).mono ?_
  rintro e w21 ⟨rfl, b21⟩
  have S21 := hide ((unhide S20).call b21)
  have M21 := hide ((unhide M20).call b21)
  clear S20 M20 b21 d0 d1 OH
  have e0 := (unhide M21).var.cell 0
  have e1 := (unhide M21).var.cell 1
  simp only [kA0, kA1, kA2] at e0 e1
  go_wp2_with fail
  refine (unhide hho ag cg _ hol (unhide M21).nodes).mono ?_
  rintro e w22 ⟨rfl, b22⟩
  have bfin := ((unhide S21).call b22).bel
  clear S21 M21 b22 e0 e1
  go_wp2
  go_ret
  exact ⟨rfl, bfin⟩
end fnExactPlainRemove
end Go.Proofs.YtkfpfckmjgjanabDoor
