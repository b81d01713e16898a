/- The walk of the law FnExactTreeNames, over the walks of the two functions and of the laws' own. -/
import Derived.Test.YtjfnmfnjlacbeaaDoorWNamesF
import Derived.Test.YtjfnmfnjlacbeaaDoorWMarkS
import Derived.Test.YtjfnmfnjlacbeaaDoorG41
import Derived.Test.YtjfnmfnjlacbeaaDoorOpenTree
namespace Go.Proofs.YtjfnmfnjlacbeaaDoor
open Go.RowKit
namespace fnExactTreeNames
set_option linter.unusedSimpArgs false in
set_option maxRecDepth 100000 in
set_option maxHeartbeats 4000000 in
theorem walk (a : Option Addr) (L : List Pl.Nd) (cap : Nat) (p : ByteArray) (w : World) (ok : OpenT.OkT w a L) (_okp : p.size ≤ maxLen) (r1 r2 r3 : TypeId) (x1 x2 x3 : Value) (hE : WNodesI.Errs w r1 r2 r3 x1 x2 x3) :
    Calls Tryd.prog 7 #[.agg #[.slice a L.length cap], .string p] w fun e w' => e = .returned (.bool true) ∧ Below w.heap.size w w' := by
  obtain ⟨hl, hv, hok⟩ := ok
  have b0 : Below w.heap.size w (w.alloc (.cells #[.slice a L.length cap] 31)) := (Below.refl _ _).alloc (Nat.le_refl _) _
  have hsz := hide (fun W (b : Below w.heap.size w W) => WLaw.szTree_any a cap L W hl (Mem.nodes_call hv b) (fun n hn => ⟨(hok n hn).1, (hok n hn).2.1⟩))
  have htt := hide (fun W (b : Below w.heap.size w W) (h2 : L.length ≤ 1048576) => WLaw.toTree_row a cap L W h2 (Mem.nodes_call hv b))
  have heq := hide (fun (g g' : Nat) W (h2 : L.length ≤ 1048576) h3 h4 => WLaw.eqTree_any (some ⟨g, 0, none⟩) (some ⟨g', 0, none⟩) L.length L.length L W h2 h3 h4)
  have hs := hide (fun (g : Nat) W (h2 : L.length ≤ 1048576) h3 h4 => WNamesT.spec_any (some ⟨g, 0, none⟩) L.length L p W h2 h3 h4)
  have hi := hide (fun (g : Nat) W (h2 : L.length ≤ 1048576) h3 h4 hp h5 => WNamesF.impl_any (some ⟨g, 0, none⟩) L.length L p W h2 h3 h4 hp r1 r2 r3 x1 x2 x3 h5)
  have hkl := Pl.kidsO_len p L
  generalize Pl.kidsO p L = K at hs hi hkl
  have heo := hide (fun (v u : Value) W h3 h4 => WMarks.eq_any v u K W (by omega) h3 h4)
  have hmx := hide (fun (g : Nat) (cur : Array Value) W (h2 : L.length ≤ 1048576) h3 h4 => WMarkN.layT_any g L.length L.length 1 cur W h2 (by omega) (by omega) h3 h4)
  have hmo := hide (fun (v : Value) (B : Nat) W h3 => WMarkS.lay_own v K.length B (K.map Value.string) W (by omega) h3)
  have hho := hide (fun (v : Value) W h3 => WMarks.held_any v K.length 1 W (by omega) (by omega) (by omega) h3)
  have HE := hide hE
  have A0 := Mem.Blk.new w #[.slice a L.length cap] 31
  clear hv hok hE
  by_cases hz : 1048576 < p.size
  · have t0 : (1048576 : Int) < (p.size : Int) := by omega
    go_enter Tryd.func7, Tryd.ntmps7
    go_wp2
    go_ret
    exact ⟨rfl, b0⟩
  have t0 : ¬ (1048576 : Int) < (p.size : Int) := by omega
  have hp : p.size ≤ 1048576 := by omega
  clear hz
  have HP := hide hp
  clear hp
  go_enter Tryd.func7, Tryd.ntmps7
  go_wp2_with fail
  refine (unhide hsz _ b0).mono ?_
  rintro e w1 ⟨⟨r, rfl, hr⟩, b1⟩
  have bw1 := b0.trans (b1.mono b0.size)
  have A1 := A0.call b1
  clear b0 b1 A0 hsz
  rcases hr with rfl | ⟨hr0, hr1, hl2, hz⟩
  · clear A1
    go_wp2
    go_ret
    exact ⟨rfl, bw1⟩
  have hr2 : ¬ r < 0 := by omega
  have HZ := hide hz
  clear hz
  have c0 := A1.cell 0
  simp only [kA0, kA1, kA2] at c0
  go_wp2_with fail
  refine (unhide htt _ bw1 hl2).mono ?_
  rintro e w2 ⟨g1, rfl, -, -, hn1, b2⟩
  have bw2 := bw1.trans (b2.mono bw1.size)
  have A2 := A1.call b2
  have HN1 := hide hn1
  clear bw1 b2 A1 c0 hn1
  go_wp2_with fail
  refine (unhide hs g1 _ hl2 (unhide HN1) (unhide HZ)).mono ?_
  rintro e w3 ⟨u, rfl, ownw, b3⟩
  have S3 : WMarkS.W0 w w3 a L.length cap w3.heap.size u K :=
    ⟨bw2.trans (b3.mono bw2.size), A2.call b3, Mem.own_mono ownw (by have := A2.lt; omega), fun g hg => (World.ownsRow.lt ownw g hg).2, Nat.lt_of_lt_of_le A2.lt b3.size⟩
  clear bw2 b3 A2 HN1 hs ownw
  have c0 := S3.arg.cell 0
  simp only [kA0, kA1, kA2] at c0
  have K3 := hide S3
  clear S3
  go_wp2_with fail
  refine (unhide htt _ (unhide K3).bel hl2).mono ?_
  rintro e w5 ⟨g2, rfl, hg2, ⟨cur, hrow, hcur⟩, hn2, b5⟩
  have S5 := (unhide K3).call b5
  have hYw : w3.heap.size ≤ w5.heap.size := b5.size
  generalize w3.heap.size = Y at S5 hg2 hYw
  have b6 : Below w5.heap.size w5 (w5.alloc (.cells #[.slice (some ⟨g2, 0, none⟩) L.length L.length] 36)) := (Below.refl _ _).alloc (Nat.le_refl _) _
  have S6 := hide (S5.call b6)
  have X6 : Hid (WMarkN.X0 (w5.alloc (.cells #[.slice (some ⟨g2, 0, none⟩) L.length L.length] 36)) w5.heap.size g2 L cur) := ⟨Mem.Blk.new _ _ _, Mem.Blk.alloc hrow _, hcur, Mem.nodes_call hn2 b6, (Array.getElem?_eq_some_iff.1 hrow).1⟩
  have hE6 := hide ((unhide HE).call (unhide S6).bel)
  have hX : (w5.alloc (.cells #[.slice (some ⟨g2, 0, none⟩) L.length L.length] 36)).heap.size = w5.heap.size + 1 := by simp
  clear K3 b5 S5 b6 hrow hcur hn2 c0
  go_wp2_with fail
  refine (unhide hi g2 _ hl2 (unhide X6).nodes (unhide HZ) (unhide HP) (unhide hE6)).mono ?_
  rintro e w7 ⟨v, rfl, owng, b7⟩
  rw [hX] at owng
  have S8 := hide ((unhide S6).call b7)
  have X8 := hide ((unhide X6).call b7)
  have G8 : Hid (WMarkS.Own w7 (w5.heap.size + 1) v K) := owng
  clear S6 X6 hE6 b7 hX owng
  generalize w5.heap.size = X at X8 G8 hYw ⊢
  go_wp2_with fail
  refine (unhide heo v u _ (unhide G8).texts (unhide S8).own.texts).mono ?_
  rintro e w6 ⟨rfl, b9⟩
  have S9 := (unhide S8).call b9
  have X9 := (unhide X8).call b9
  have G9 := hide ((unhide G8).call b9)
  clear S8 X8 G8 b9
  have c0 := S9.arg.cell 0
  simp only [kA0, kA1, kA2] at c0
  have d0 := X9.var.cell 0
  simp only [kA0, kA1, kA2] at d0
  have hc0 : w.heap.size < w6.heap.size := S9.arg.lt
  have hd0 : X < w6.heap.size := X9.var.lt
  have K9 := hide S9
  have KX := hide X9
  have MK : Hid (∀ W', Below w6.heap.size w6 W' → (Below w6.heap.size w6 W' ∧ W'.cell? ⟨w.heap.size, 0, none⟩ = some (.slice a L.length cap) ∧ W'.cell? ⟨X, 0, none⟩ = some (.slice (some ⟨g2, 0, none⟩) L.length L.length))) := fun W' hb' => ⟨hb', (hb'.cell (p := ⟨w.heap.size, 0, none⟩) hc0).trans c0, (hb'.cell (p := ⟨X, 0, none⟩) hd0).trans d0⟩
  clear c0 d0 hc0 hd0 S9 X9
  go_wp2_with fail
  refine wp_region_held_drew (S := fun W' => Below w6.heap.size w6 W' ∧ W'.cell? ⟨w.heap.size, 0, none⟩ = some (.slice a L.length cap) ∧ W'.cell? ⟨X, 0, none⟩ = some (.slice (some ⟨g2, 0, none⟩) L.length L.length)) (by kernel_rfl) ?_ (fun hHeld => ?_)
  · exact unhide MK _ ((Below.refl _ _).trans ⟨rfl, rfl, rfl, Nat.le_refl _, fun _ _ => rfl⟩)
  refine wpAnyH_take (i := 0) (v := ?_) rfl (by kernel_rfl) (by kernel_rfl) (by kernel_rfl) (fun _ _ _ h => h) (Or.inl ⟨by rfl, ?_⟩) (by assumption) ?_
  rotate_left
  · (intro w hSw; (try dsimp only at hSw); go_simp; (try with_reducible rfl))
  try simp only [Act.put, kB0, kB1, kB2, kB3, kB4, kB5]
  refine wpAnyH_take (i := 1) (v := ?_) rfl (by kernel_rfl) (by kernel_rfl) (by kernel_rfl) (fun _ _ _ h => h) (Or.inl ⟨by rfl, ?_⟩) (by assumption) ?_
  rotate_left
  · (intro w hSw; (try dsimp only at hSw); go_simp; (try with_reducible rfl))
  try simp only [Act.put, kB0, kB1, kB2, kB3, kB4, kB5]
  refine wpAnyH_ready (rs := [2]) (by kernel_rfl) (by simp) ?_
  refine AllReadyH.cons rfl (fun K hK => ?_) AllReadyH.nil
  go_simp
  refine (unhide htt _ ((unhide K9).bel.trans (hHeld.1.mono (unhide K9).bel.size)) hl2).mono ?_
  rintro e wX ⟨g3, rfl, -, -, hn3, bX⟩
  refine hK.out _ _ ?_ (fun hHeld => ?_)
  · exact unhide MK _ (hHeld.1.trans (bX.mono hHeld.1.size))
  clear hK K
  try simp only [Act.put, kB0, kB1, kB2, kB3, kB4, kB5]
  refine wpAnyH_ready (rs := [3]) (by kernel_rfl) (by simp) ?_
  refine AllReadyH.cons rfl (fun K hK => ?_) AllReadyH.nil
  go_simp
  refine (unhide heq g2 g3 _ hl2 (Mem.nodes_call (unhide KX).nodes hHeld.1) hn3).mono ?_
  rintro e wX ⟨rfl, bX⟩
  refine hK.out _ _ ?_ (fun hHeld => ?_)
  · exact unhide MK _ (hHeld.1.trans (bX.mono hHeld.1.size))
  clear hK K
  try simp only [Act.put, kB0, kB1, kB2, kB3, kB4, kB5]
  refine wpAnyH_take (i := 4) (v := ?_) rfl (by kernel_rfl) (by kernel_rfl) (by kernel_rfl) (fun _ _ _ h => h) (Or.inl ⟨by rfl, ?_⟩) (by assumption) ?_
  rotate_left
  · (intro w hSw; (try dsimp only at hSw); go_simp; (try with_reducible rfl))
  try simp only [Act.put, kB0, kB1, kB2, kB3, kB4, kB5]
  refine wpAnyH_done (by kernel_rfl) ?_ _
  have S10 := hide ((unhide K9).call hHeld.1)
  have X10 := hide ((unhide KX).call hHeld.1)
  have G10 := hide ((unhide G9).call hHeld.1)
  clear K9 KX G9 MK hn3 bX heq
  have d0 := (unhide X10).var.cell 0
  simp only [kA0, kA1, kA2] at d0
  clear hHeld
  go_wp2_with fail
  refine (unhide hmx g2 cur _ hl2 (unhide X10).row (by rw [(unhide X10).size]; exact Nat.le_refl _)).mono ?_
  rintro e w11 ⟨rfl, hlaid⟩
  have S12 := hide ((unhide S10).grown hlaid.grown (fun g hg => by cases hg; exact hg2))
  have G12 := hide ((unhide G10).grown hlaid.grown (fun g hg e => by cases e; have := (unhide X10).lt; have := ((unhide G10).lt g2 hg).1; omega))
  have HK0 : ¬ ((1 + 5 * L.length : Nat) : Int) < 0 := by omega
  have hXY : Y ≤ X := by omega
  clear S10 X10 G10 hlaid hmx d0
  generalize 1 + 5 * L.length = kk at HK0 ⊢
  go_wp2_with fail
  refine (unhide heo v u _ (unhide G12).texts (unhide S12).own.texts).mono ?_
  rintro e w13 ⟨rfl, b13⟩
  have S13 := hide ((unhide S12).call b13)
  have G14 := hide ((unhide G12).call b13)
  clear S12 G12 b13
  go_wp2_with fail
  refine (unhide hmo v _ _ (unhide G14)).mono ?_
  rintro e w15 ⟨rfl, hn15, hg15⟩
  have S15 := hide ((unhide S13).grown hg15 (fun g hg => by have := ((unhide G14).lt g hg).1; omega))
  have M16 := hide hn15
  have HM0 : ¬ ((1 + K.length : Nat) : Int) < 0 := by omega
  clear S13 G14 hn15 hg15 hmo
  generalize 1 + K.length = mm at HM0 hho ⊢
  go_wp2_with fail
  refine (unhide hho v _ (unhide M16)).mono ?_
  rintro e w17 ⟨rfl, b17⟩
  have S17 := hide ((unhide S15).call b17)
  have M17 := hide (Mem.texts_call (unhide M16) b17)
  clear S15 M16 b17
  have c0 := (unhide S17).arg.cell 0
  simp only [kA0, kA1, kA2] at c0
  go_wp2_with fail
  refine (unhide htt _ (unhide S17).bel hl2).mono ?_
  rintro e w18 ⟨g4, rfl, -, -, hn4, b18⟩
  have S18 := hide ((unhide S17).call b18)
  have M18 := hide (Mem.texts_call (unhide M17) b18)
  have HN4 := hide hn4
  have hE18 := hide ((unhide HE).call (unhide S18).bel)
  clear S17 M17 b18 hn4 c0
  go_wp2_with fail
  refine (unhide hi g4 _ hl2 (unhide HN4) (unhide HZ) (unhide HP) (unhide hE18)).mono ?_
  rintro e w19 ⟨vh, rfl, ownh, b19⟩
  have S20 := hide ((unhide S18).call b19)
  have M20 := hide (Mem.texts_call (unhide M18) b19)
  have OH := hide (Mem.own_texts ownh)
  clear S18 M18 b19 ownh HN4 hE18
  go_wp2_with fail
  refine (unhide heo vh u _ (unhide OH) (unhide S20).own.texts).mono ?_
  rintro e w21 ⟨rfl, b21⟩
  have S21 := hide ((unhide S20).call b21)
  have M21 := hide (Mem.texts_call (unhide M20) b21)
  clear S20 M20 b21 OH
  go_wp2_with fail
  refine (unhide hho v _ (unhide M21)).mono ?_
  rintro e w22 ⟨rfl, b22⟩
  have bfin := ((unhide S21).call b22).bel
  clear S21 M21 b22
  go_wp2
  go_ret
  exact ⟨rfl, bfin⟩
end fnExactTreeNames
end Go.Proofs.YtjfnmfnjlacbeaaDoor
