/- The walk of the law FnExactTreePut, over the walks of the two functions and of the laws' own. -/
import Derived.Test.YtepmojmelcngeaaGreatDoorG37
import Derived.Test.YtepmojmelcngeaaGreatDoorG39
import Derived.Test.YtepmojmelcngeaaGreatDoorG41
import Derived.Test.YtepmojmelcngeaaGreatDoorG42
namespace Go.Proofs.YtepmojmelcngeaaGreatDoor
open Go.RowKit
namespace fnExactTreePut
set_option linter.unusedSimpArgs false in
set_option maxRecDepth 100000 in
set_option maxHeartbeats 8000000 in
theorem walk (a : Option Addr) (L : List Pl.Nd) (cap : Nat) (n : Pl.Nd) (w : World) (ok : OpenT.OkT w a L) (okn : OpenN.Ok n) (x : Nat → Addr) (hE : WIs.Six w x) :
    Calls Tryz.prog 3 #[.agg #[.slice a L.length cap], n.val] w fun e w' => e = .returned (.bool true) ∧ Below w.heap.size w w' := by
  obtain ⟨hl, hv, hok⟩ := ok
  have hsz := hide (fun W (b : Below w.heap.size w W) => WLaw.szTree_any a cap L W hl (Mem.nodes_call hv b) (fun n hn => ⟨(hok n hn).1, (hok n hn).2.1⟩))
  have htt := hide (fun W (b : Below w.heap.size w W) (h2 : L.length ≤ 1048576) => WLaw.toTree_row a cap L W h2 (Mem.nodes_call hv b))
  have heq := hide (fun (g g' : Nat) W (h2 : L.length ≤ 1048576) h3 h4 => WLaw.eqTree_any (some ⟨g, 0, none⟩) (some ⟨g', 0, none⟩) L.length L.length L W h2 h3 h4)
  have hs := hide (fun (g : Nat) W (hgW : g < W.heap.size) (h2 : L.length ≤ 1048576) h3 h4 hn5 => WPutB.spec_any g L n W hgW h2 h3 h4 hn5)
  have hi := hide (fun (g : Nat) W (h2 : L.length ≤ 1048576) h3 h4 hn5 h5 => WPutF.impl_any (some ⟨g, 0, none⟩) L.length L n W h2 h3 h4 hn5 x h5)
  have HOL : Hid (L.length ≤ 1048576 → (Pl.putO L n).length ≤ 1048576) := (fun h => Pl.putO_max h)
  generalize Pl.putO L n = O at hs hi HOL
  generalize Pl.putC L n = c at hs hi
  have heo := hide (fun (ag aw : Option Addr) (cg cw : Nat) W (h2 : O.length ≤ 1048576) h3 h4 => WMarkN.eqO_any ag aw cg cw c O W h2 h3 h4)
  have hmx := hide (fun (g : Nat) (cur : Array Value) W (h2 : L.length ≤ 1048576) h3 h4 => WMarkN.layT_any g L.length L.length 1 cur W h2 (by omega) (by omega) h3 h4)
  have hmo := hide (fun (ag : Option Addr) (cg B : Nat) W (h2 : O.length ≤ 1048576) h3 => WMarkN.layO_own ag O.length cg 1 B c O W h2 (by omega) (by omega) h3)
  have hho := hide (fun (ag : Option Addr) (cg : Nat) W (h2 : O.length ≤ 1048576) h3 => WMarkN.heldO_any ag O.length cg 1 c W h2 (by omega) (by omega) h3)
  have HE := hide hE
  have hsn := hide (fun (left : Int) W h0 h1 => WLaw.szNode_any n left W okn.1 okn.2.1 h0 h1)
  have htn := hide (fun W => WLaw.toNode_any n W)
  clear hv hok hE okn
  obtain ⟨np, nk, nd, nt, nm⟩ := n
  simp only [Pl.Nd.val] at hs hi hsn htn ⊢
  have b0 : Below w.heap.size w ((w.alloc (.cells #[.slice a L.length cap] 24)).alloc (.cells #[.string np, .int .i64 nk, .string nd, .int .i64 nt, .int .i64 nm] 26)) := ((Below.refl _ _).alloc (Nat.le_refl _) _).alloc (by simp) _
  have A0 : Mem.Blk ((w.alloc (.cells #[.slice a L.length cap] 24)).alloc (.cells #[.string np, .int .i64 nk, .string nd, .int .i64 nt, .int .i64 nm] 26)) w.heap.size #[.slice a L.length cap] 24 := (Mem.Blk.new w #[.slice a L.length cap] 24).alloc _
  have N0 : Mem.Blk ((w.alloc (.cells #[.slice a L.length cap] 24)).alloc (.cells #[.string np, .int .i64 nk, .string nd, .int .i64 nt, .int .i64 nm] 26)) (w.heap.size + 1) #[.string np, .int .i64 nk, .string nd, .int .i64 nt, .int .i64 nm] 26 := Mem.new_two _ _ _
  go_enter Tryz.func3, Tryz.ntmps3
  go_wp2_with fail
  refine (unhide hsz _ b0).mono ?_
  rintro e w0 ⟨⟨r, rfl, hr⟩, bx⟩
  have bw0 := b0.trans (bx.mono b0.size)
  have A1 := A0.call bx
  have N1 := N0.call bx
  clear b0 bx A0 N0 hsz
  rcases hr with rfl | ⟨hr0, hr1, hl2, hz⟩
  · clear A1 N1
    go_wp2
    go_ret
    exact ⟨rfl, bw0⟩
  have hr2 : ¬ r < 0 := by omega
  have HZ := hide hz
  have hol := unhide HOL hl2
  clear hz HOL
  have n0 := N1.cell 0
  have n1 := N1.cell 1
  have n2 := N1.cell 2
  have n3 := N1.cell 3
  have n4 := N1.cell 4
  simp only [kA0, kA1, kA2] at n0 n1 n2 n3 n4
  go_wp2_with fail
  refine (unhide hsn r _ hr0 hr1).mono ?_
  rintro e w1 ⟨⟨r2, rfl, hrn⟩, bx⟩
  have bw1 := bw0.trans (bx.mono bw0.size)
  have A2 := A1.call bx
  have N2 := N1.call bx
  clear bw0 bx A1 N1 hsn n0 n1 n2 n3 n4
  rcases hrn with rfl | ⟨hn0, hn1⟩
  · clear A2 N2
    go_wp2
    go_ret
    exact ⟨rfl, bw1⟩
  have hrr : ¬ r2 < 0 := by omega
  have HP := hide (show np.size ≤ 1048576 ∧ nd.size ≤ 1048576 from ⟨by omega, by omega⟩)
  clear hn0 hn1 hr0 hr1
  have c0 := A2.cell 0
  simp only [kA0, kA1, kA2] at c0
  have n0 := N2.cell 0
  have n1 := N2.cell 1
  have n2 := N2.cell 2
  have n3 := N2.cell 3
  have n4 := N2.cell 4
  simp only [kA0, kA1, kA2] at n0 n1 n2 n3 n4
  have hlt0 := A2.lt
  have hlt1 := N2.lt
  have KA := hide A2
  have KN := hide N2
  have KB := hide bw1
  clear A2 N2 bw1
  have MK : Hid (∀ W', Below w1.heap.size w1 W' → (Below w1.heap.size w1 W' ∧ W'.cell? ⟨w.heap.size, 0, none⟩ = some (.slice a L.length cap) ∧ W'.cell? ⟨w.heap.size + 1, 0, none⟩ = some (.string np) ∧ W'.cell? ⟨w.heap.size + 1, 1, none⟩ = some (.int .i64 nk) ∧ W'.cell? ⟨w.heap.size + 1, 2, none⟩ = some (.string nd) ∧ W'.cell? ⟨w.heap.size + 1, 3, none⟩ = some (.int .i64 nt) ∧ W'.cell? ⟨w.heap.size + 1, 4, none⟩ = some (.int .i64 nm))) := fun W' hb' => ⟨hb', (hb'.cell (p := ⟨w.heap.size, 0, none⟩) hlt0).trans c0, (hb'.cell (p := ⟨w.heap.size + 1, 0, none⟩) hlt1).trans n0, (hb'.cell (p := ⟨w.heap.size + 1, 1, none⟩) hlt1).trans n1, (hb'.cell (p := ⟨w.heap.size + 1, 2, none⟩) hlt1).trans n2, (hb'.cell (p := ⟨w.heap.size + 1, 3, none⟩) hlt1).trans n3, (hb'.cell (p := ⟨w.heap.size + 1, 4, none⟩) hlt1).trans n4⟩
  clear c0 n0 n1 n2 n3 n4 hlt0 hlt1
  go_wp2_with fail
  refine wp_merge (R := fun T T' W => ∃ (g1 : Nat) (Y : Nat) (aw : Option Addr) (cw : Nat), T' = ((((((T).setIfInBounds 23 (.agg #[.slice a L.length cap])).setIfInBounds 24 (.agg #[.slice (some ⟨g1, 0, none⟩) L.length L.length])).setIfInBounds 25 (.agg #[.string np, .int .i64 nk, .string nd, .int .i64 nt, .int .i64 nm])).setIfInBounds 26 (.agg #[.string np, .int .i64 nk, .string nd, .int .i64 nt, .int .i64 nm])).setIfInBounds 27 (.agg #[.slice aw O.length cw, .int .i64 c])).setIfInBounds 6 (.pointer (some ⟨Y, 0, none⟩)) ∧ WMarkP.Got w1 W Y aw cw O c) ?_ ?_
  · refine wp_region_held_drew (S := fun W' => Below w1.heap.size w1 W' ∧ W'.cell? ⟨w.heap.size, 0, none⟩ = some (.slice a L.length cap) ∧ W'.cell? ⟨w.heap.size + 1, 0, none⟩ = some (.string np) ∧ W'.cell? ⟨w.heap.size + 1, 1, none⟩ = some (.int .i64 nk) ∧ W'.cell? ⟨w.heap.size + 1, 2, none⟩ = some (.string nd) ∧ W'.cell? ⟨w.heap.size + 1, 3, none⟩ = some (.int .i64 nt) ∧ W'.cell? ⟨w.heap.size + 1, 4, none⟩ = some (.int .i64 nm)) (by kernel_rfl) ?_ (fun hHeld => ?_)
    · exact unhide MK _ ((Below.refl _ _).trans ⟨rfl, rfl, rfl, Nat.le_refl _, fun _ _ => rfl⟩)
    generalize w1.drew = D0 at hHeld ⊢
    refine wpAnyH_take (i := 0) (v := ?_) rfl (by kernel_rfl) (by kernel_rfl) (by kernel_rfl) (fun _ _ _ h => nomatch h.1) (Or.inl ⟨by rfl, ?_⟩) (by assumption) ?_
    rotate_left
    · (intro w hSw; (try dsimp only at hSw); go_simp; (try with_reducible rfl))
    try simp only [Act.put, kB0, kB1, kB2, kB3, kB4, kB5]
    refine wpAnyH_take (i := 2) (v := ?_) rfl (by kernel_rfl) (by kernel_rfl) (by kernel_rfl) (fun _ _ _ h => nomatch h.1) (Or.inl ⟨by rfl, ?_⟩) (by assumption) ?_
    rotate_left
    · (intro w hSw; (try dsimp only at hSw); go_simp; (try with_reducible rfl))
    try simp only [Act.put, kB0, kB1, kB2, kB3, kB4, kB5]
    refine wpAnyH_ready (rs := [1, 5]) (by kernel_rfl) (by simp) ?_
    refine AllReadyH.cons rfl (fun K hK => ?_) (AllReadyH.cons rfl (fun K hK => ?_) (AllReadyH.nil))
    · go_simp
      refine (unhide htt _ ((unhide KB).trans (hHeld.1.mono (unhide KB).size)) hl2).mono ?_
      rintro e XT ⟨g1, rfl, -, ⟨cu1, hro1, -⟩, hn1, bX⟩
      have hg1 : g1 < XT.heap.size := (Array.getElem?_eq_some_iff.1 hro1).1
      clear hro1
      refine hK.out _ _ ?_ (fun hHeld => ?_)
      · exact unhide MK _ (hHeld.1.trans (bX.mono hHeld.1.size))
      clear hK K
      try simp only [Act.put, kB0, kB1, kB2, kB3, kB4, kB5]
      clear bX
      refine wpAnyH_ready (rs := [3, 5]) (by kernel_rfl) (by simp) ?_
      refine AllReadyH.cons rfl (fun K hK => ?_) (AllReadyH.cons rfl (fun K hK => ?_) (AllReadyH.nil))
      · go_simp
        refine (unhide htn _).mono ?_
        rintro e XN ⟨rfl, bX⟩
        replace hn1 := Mem.nodes_call hn1 bX
        replace hg1 := Nat.lt_of_lt_of_le hg1 bX.size
        refine hK.out _ _ ?_ (fun hHeld => ?_)
        · exact unhide MK _ (hHeld.1.trans (bX.mono hHeld.1.size))
        clear hK K
        try simp only [Act.put, kB0, kB1, kB2, kB3, kB4, kB5]
        clear bX
        refine wpAnyH_ready (rs := [4, 5]) (by kernel_rfl) (by simp) ?_
        refine AllReadyH.cons rfl (fun K hK => ?_) (AllReadyH.cons rfl (fun K hK => ?_) (AllReadyH.nil))
        · go_simp
          refine (unhide hs g1 _ hg1 hl2 hn1 (unhide HZ) (unhide HP)).mono ?_
          rintro e XF ⟨vw, rfl, own, bX⟩
          obtain ⟨aw, cw, rfl⟩ := Mem.own_shape own
          replace own := Mem.ownN_mono own hHeld.1.size
          replace hn1 := Mem.nodes_call hn1 bX
          replace hg1 := Nat.lt_of_lt_of_le hg1 bX.size
          refine hK.out _ _ ?_ (fun hHeld => ?_)
          · exact unhide MK _ (hHeld.1.trans (bX.mono hHeld.1.size))
          clear hK K
          try simp only [Act.put, kB0, kB1, kB2, kB3, kB4, kB5]
          clear bX
          refine wpAnyH_ready (rs := [5]) (by kernel_rfl) (by simp) ?_
          refine AllReadyH.cons rfl (fun K hK => ?_) (AllReadyH.nil)
          go_simp
          have LY := hHeld.1.size
          have bA : Below XF.heap.size XF (XF.alloc (.cells #[.slice none 0 0, .int .i64 0] 33)) := (Below.refl _ _).alloc (Nat.le_refl _) _
          have ne : ∀ g, (Value.slice aw O.length cw).ownBlock = some g → g ≠ XF.heap.size := fun g hg => by have := (Mem.ownN_lt own g hg).2; omega
          replace hn1 := Mem.nodes_call hn1 bA
          replace hg1 := Nat.lt_of_lt_of_le hg1 bA.size
          replace own := Mem.ownN_call own bA
          have V := Mem.Blk.new XF #[.slice none 0 0, .int .i64 0] 33
          refine hK.out _ _ ?_ (fun hHeld => ?_)
          · exact unhide MK _ (hHeld.1.trans (bA.mono hHeld.1.size))
          clear hK K
          try simp only [Act.put, kB0, kB1, kB2, kB3, kB4, kB5]
          clear bA
          generalize XF.alloc (.cells #[.slice none 0 0, .int .i64 0] 33) = XA at hHeld V hn1 hg1 own ⊢
          generalize XF.heap.size = Y at LY V ne ⊢
          have d0 := V.cell 0
          have d1 := V.cell 1
          have f0 := V.fr 0
          have f1 := V.fr 1
          simp only [kA0, kA1, kA2] at d0 d1
          have GOT := hide (WMarkP.Got.of (c := c) hHeld.1 LY V own ne)
          clear V own ne
          refine wpAnyH_ready (rs := [6]) (by kernel_rfl) (by simp) ?_
          refine AllReadyH.cons rfl (fun K hK => ?_) (AllReadyH.nil)
          go_simp
          refine hK.out _ _ ?_ (fun hHeld => ?_)
          · exact unhide MK _ ((unhide GOT).bel)
          clear hK K
          try simp only [Act.put, kB0, kB1, kB2, kB3, kB4, kB5]
          refine wpAnyH_done (by kernel_rfl) ?_ _
          refine ⟨rfl, rfl, g1, Y, aw, cw, ?_, unhide GOT⟩
          simp only [kB3, kB4, kB5]
        · go_simp
          have LY := hHeld.1.size
          have bA : Below XN.heap.size XN (XN.alloc (.cells #[.slice none 0 0, .int .i64 0] 33)) := (Below.refl _ _).alloc (Nat.le_refl _) _
          replace hn1 := Mem.nodes_call hn1 bA
          replace hg1 := Nat.lt_of_lt_of_le hg1 bA.size
          have V := Mem.Blk.new XN #[.slice none 0 0, .int .i64 0] 33
          refine hK.out _ _ ?_ (fun hHeld => ?_)
          · exact unhide MK _ (hHeld.1.trans (bA.mono hHeld.1.size))
          clear hK K
          try simp only [Act.put, kB0, kB1, kB2, kB3, kB4, kB5]
          clear bA
          generalize XN.alloc (.cells #[.slice none 0 0, .int .i64 0] 33) = XA at hHeld V hn1 hg1 ⊢
          generalize XN.heap.size = Y at LY V ⊢
          refine wpAnyH_ready (rs := [4]) (by kernel_rfl) (by simp) ?_
          refine AllReadyH.cons rfl (fun K hK => ?_) (AllReadyH.nil)
          go_simp
          refine (unhide hs g1 _ hg1 hl2 hn1 (unhide HZ) (unhide HP)).mono ?_
          rintro e XF ⟨vw, rfl, own, bX⟩
          obtain ⟨aw, cw, rfl⟩ := Mem.own_shape own
          have ne : ∀ g, (Value.slice aw O.length cw).ownBlock = some g → g ≠ Y := fun g hg => by have := (Mem.ownN_lt own g hg).1; have := V.lt; omega
          replace own := Mem.ownN_mono own hHeld.1.size
          replace hn1 := Mem.nodes_call hn1 bX
          replace hg1 := Nat.lt_of_lt_of_le hg1 bX.size
          replace V := V.call bX
          refine hK.out _ _ ?_ (fun hHeld => ?_)
          · exact unhide MK _ (hHeld.1.trans (bX.mono hHeld.1.size))
          clear hK K
          try simp only [Act.put, kB0, kB1, kB2, kB3, kB4, kB5]
          clear bX
          have d0 := V.cell 0
          have d1 := V.cell 1
          have f0 := V.fr 0
          have f1 := V.fr 1
          simp only [kA0, kA1, kA2] at d0 d1
          have GOT := hide (WMarkP.Got.of (c := c) hHeld.1 LY V own ne)
          clear V own ne
          refine wpAnyH_ready (rs := [6]) (by kernel_rfl) (by simp) ?_
          refine AllReadyH.cons rfl (fun K hK => ?_) (AllReadyH.nil)
          go_simp
          refine hK.out _ _ ?_ (fun hHeld => ?_)
          · exact unhide MK _ ((unhide GOT).bel)
          clear hK K
          try simp only [Act.put, kB0, kB1, kB2, kB3, kB4, kB5]
          refine wpAnyH_done (by kernel_rfl) ?_ _
          refine ⟨rfl, rfl, g1, Y, aw, cw, ?_, unhide GOT⟩
          simp only [kB3, kB4, kB5]
      · go_simp
        have LY := hHeld.1.size
        have bA : Below XT.heap.size XT (XT.alloc (.cells #[.slice none 0 0, .int .i64 0] 33)) := (Below.refl _ _).alloc (Nat.le_refl _) _
        replace hn1 := Mem.nodes_call hn1 bA
        replace hg1 := Nat.lt_of_lt_of_le hg1 bA.size
        have V := Mem.Blk.new XT #[.slice none 0 0, .int .i64 0] 33
        refine hK.out _ _ ?_ (fun hHeld => ?_)
        · exact unhide MK _ (hHeld.1.trans (bA.mono hHeld.1.size))
        clear hK K
        try simp only [Act.put, kB0, kB1, kB2, kB3, kB4, kB5]
        clear bA
        generalize XT.alloc (.cells #[.slice none 0 0, .int .i64 0] 33) = XA at hHeld V hn1 hg1 ⊢
        generalize XT.heap.size = Y at LY V ⊢
        refine wpAnyH_ready (rs := [3]) (by kernel_rfl) (by simp) ?_
        refine AllReadyH.cons rfl (fun K hK => ?_) (AllReadyH.nil)
        go_simp
        refine (unhide htn _).mono ?_
        rintro e XN ⟨rfl, bX⟩
        replace hn1 := Mem.nodes_call hn1 bX
        replace hg1 := Nat.lt_of_lt_of_le hg1 bX.size
        replace V := V.call bX
        refine hK.out _ _ ?_ (fun hHeld => ?_)
        · exact unhide MK _ (hHeld.1.trans (bX.mono hHeld.1.size))
        clear hK K
        try simp only [Act.put, kB0, kB1, kB2, kB3, kB4, kB5]
        clear bX
        refine wpAnyH_ready (rs := [4]) (by kernel_rfl) (by simp) ?_
        refine AllReadyH.cons rfl (fun K hK => ?_) (AllReadyH.nil)
        go_simp
        refine (unhide hs g1 _ hg1 hl2 hn1 (unhide HZ) (unhide HP)).mono ?_
        rintro e XF ⟨vw, rfl, own, bX⟩
        obtain ⟨aw, cw, rfl⟩ := Mem.own_shape own
        have ne : ∀ g, (Value.slice aw O.length cw).ownBlock = some g → g ≠ Y := fun g hg => by have := (Mem.ownN_lt own g hg).1; have := V.lt; omega
        replace own := Mem.ownN_mono own hHeld.1.size
        replace hn1 := Mem.nodes_call hn1 bX
        replace hg1 := Nat.lt_of_lt_of_le hg1 bX.size
        replace V := V.call bX
        refine hK.out _ _ ?_ (fun hHeld => ?_)
        · exact unhide MK _ (hHeld.1.trans (bX.mono hHeld.1.size))
        clear hK K
        try simp only [Act.put, kB0, kB1, kB2, kB3, kB4, kB5]
        clear bX
        have d0 := V.cell 0
        have d1 := V.cell 1
        have f0 := V.fr 0
        have f1 := V.fr 1
        simp only [kA0, kA1, kA2] at d0 d1
        have GOT := hide (WMarkP.Got.of (c := c) hHeld.1 LY V own ne)
        clear V own ne
        refine wpAnyH_ready (rs := [6]) (by kernel_rfl) (by simp) ?_
        refine AllReadyH.cons rfl (fun K hK => ?_) (AllReadyH.nil)
        go_simp
        refine hK.out _ _ ?_ (fun hHeld => ?_)
        · exact unhide MK _ ((unhide GOT).bel)
        clear hK K
        try simp only [Act.put, kB0, kB1, kB2, kB3, kB4, kB5]
        refine wpAnyH_done (by kernel_rfl) ?_ _
        refine ⟨rfl, rfl, g1, Y, aw, cw, ?_, unhide GOT⟩
        simp only [kB3, kB4, kB5]
    · go_simp
      have LY := hHeld.1.size
      have bA : Below D0.heap.size D0 (D0.alloc (.cells #[.slice none 0 0, .int .i64 0] 33)) := (Below.refl _ _).alloc (Nat.le_refl _) _
      have V := Mem.Blk.new D0 #[.slice none 0 0, .int .i64 0] 33
      refine hK.out _ _ ?_ (fun hHeld => ?_)
      · exact unhide MK _ (hHeld.1.trans (bA.mono hHeld.1.size))
      clear hK K
      try simp only [Act.put, kB0, kB1, kB2, kB3, kB4, kB5]
      clear bA
      generalize D0.alloc (.cells #[.slice none 0 0, .int .i64 0] 33) = XA at hHeld V ⊢
      generalize D0.heap.size = Y at LY V ⊢
      refine wpAnyH_ready (rs := [1]) (by kernel_rfl) (by simp) ?_
      refine AllReadyH.cons rfl (fun K hK => ?_) (AllReadyH.nil)
      go_simp
      refine (unhide htt _ ((unhide KB).trans (hHeld.1.mono (unhide KB).size)) hl2).mono ?_
      rintro e XT ⟨g1, rfl, -, ⟨cu1, hro1, -⟩, hn1, bX⟩
      have hg1 : g1 < XT.heap.size := (Array.getElem?_eq_some_iff.1 hro1).1
      clear hro1
      replace V := V.call bX
      refine hK.out _ _ ?_ (fun hHeld => ?_)
      · exact unhide MK _ (hHeld.1.trans (bX.mono hHeld.1.size))
      clear hK K
      try simp only [Act.put, kB0, kB1, kB2, kB3, kB4, kB5]
      clear bX
      refine wpAnyH_ready (rs := [3]) (by kernel_rfl) (by simp) ?_
      refine AllReadyH.cons rfl (fun K hK => ?_) (AllReadyH.nil)
      go_simp
      refine (unhide htn _).mono ?_
      rintro e XN ⟨rfl, bX⟩
      replace hn1 := Mem.nodes_call hn1 bX
      replace hg1 := Nat.lt_of_lt_of_le hg1 bX.size
      replace V := V.call bX
      refine hK.out _ _ ?_ (fun hHeld => ?_)
      · exact unhide MK _ (hHeld.1.trans (bX.mono hHeld.1.size))
      clear hK K
      try simp only [Act.put, kB0, kB1, kB2, kB3, kB4, kB5]
      clear bX
      refine wpAnyH_ready (rs := [4]) (by kernel_rfl) (by simp) ?_
      refine AllReadyH.cons rfl (fun K hK => ?_) (AllReadyH.nil)
      go_simp
      refine (unhide hs g1 _ hg1 hl2 hn1 (unhide HZ) (unhide HP)).mono ?_
      rintro e XF ⟨vw, rfl, own, bX⟩
      obtain ⟨aw, cw, rfl⟩ := Mem.own_shape own
      have ne : ∀ g, (Value.slice aw O.length cw).ownBlock = some g → g ≠ Y := fun g hg => by have := (Mem.ownN_lt own g hg).1; have := V.lt; omega
      replace own := Mem.ownN_mono own hHeld.1.size
      replace hn1 := Mem.nodes_call hn1 bX
      replace hg1 := Nat.lt_of_lt_of_le hg1 bX.size
      replace V := V.call bX
      refine hK.out _ _ ?_ (fun hHeld => ?_)
      · exact unhide MK _ (hHeld.1.trans (bX.mono hHeld.1.size))
      clear hK K
      try simp only [Act.put, kB0, kB1, kB2, kB3, kB4, kB5]
      clear bX
      have d0 := V.cell 0
      have d1 := V.cell 1
      have f0 := V.fr 0
      have f1 := V.fr 1
      simp only [kA0, kA1, kA2] at d0 d1
      have GOT := hide (WMarkP.Got.of (c := c) hHeld.1 LY V own ne)
      clear V own ne
      refine wpAnyH_ready (rs := [6]) (by kernel_rfl) (by simp) ?_
      refine AllReadyH.cons rfl (fun K hK => ?_) (AllReadyH.nil)
      go_simp
      refine hK.out _ _ ?_ (fun hHeld => ?_)
      · exact unhide MK _ ((unhide GOT).bel)
      clear hK K
      try simp only [Act.put, kB0, kB1, kB2, kB3, kB4, kB5]
      refine wpAnyH_done (by kernel_rfl) ?_ _
      refine ⟨rfl, rfl, g1, Y, aw, cw, ?_, unhide GOT⟩
      simp only [kB3, kB4, kB5]
  rintro T' w3 ⟨g1, Y, aw, cw, rfl, got⟩
  simp only [kB3, kB4, kB5]
  have S3 := WMarkP.W1.of (unhide KB) (unhide KA) (unhide KN) got
  generalize w1.heap.size = B1 at S3
  clear KA KN KB MK got hs
  have c0 := S3.arg.cell 0
  simp only [kA0, kA1, kA2] at c0
  have K3 := hide S3
  clear S3
  go_wp2_with fail
  refine (unhide htt _ (unhide K3).bel hl2).mono ?_
  rintro e w5 ⟨g2, rfl, hg2, ⟨cur, hrow, hcur⟩, hn2, b5⟩
  have S5 := (unhide K3).call b5
  have hZX : w3.heap.size ≤ w5.heap.size := b5.size
  generalize w3.heap.size = Z at S5 hg2 hZX ⊢
  have b6 : Below w5.heap.size w5 (w5.alloc (.cells #[.slice (some ⟨g2, 0, none⟩) L.length L.length] 31)) := (Below.refl _ _).alloc (Nat.le_refl _) _
  have S6 := S5.call b6
  have X6 : WMarkN.X0 (w5.alloc (.cells #[.slice (some ⟨g2, 0, none⟩) L.length L.length] 31)) w5.heap.size g2 L cur := ⟨Mem.Blk.new _ _ _, Mem.Blk.alloc hrow _, hcur, Mem.nodes_call hn2 b6, (Array.getElem?_eq_some_iff.1 hrow).1⟩
  have hX : (w5.alloc (.cells #[.slice (some ⟨g2, 0, none⟩) L.length L.length] 31)).heap.size = w5.heap.size + 1 := by simp
  clear K3 b5 S5 b6 hrow hcur hn2 c0
  go_wp2_with fail
  generalize w5.alloc (.cells #[.slice (some ⟨g2, 0, none⟩) L.length L.length] 31) = w6 at S6 X6 hX ⊢
  generalize w5.heap.size = X at X6 hX hZX ⊢
  have c0 := X6.var.cell 0
  simp only [kA0, kA1, kA2] at c0
  have n0 := S6.nod.cell 0
  have n1 := S6.nod.cell 1
  have n2 := S6.nod.cell 2
  have n3 := S6.nod.cell 3
  have n4 := S6.nod.cell 4
  simp only [kA0, kA1, kA2] at n0 n1 n2 n3 n4
  have hlt0 := X6.var.lt
  have hlt1 := S6.nod.lt
  have hn1 := X6.nodes
  have KS := hide S6
  have KX := hide X6
  clear S6 X6
  have MK : Hid (∀ W', Below w6.heap.size w6 W' → (Below w6.heap.size w6 W' ∧ W'.cell? ⟨X, 0, none⟩ = some (.slice (some ⟨g2, 0, none⟩) L.length L.length) ∧ W'.cell? ⟨w.heap.size + 1, 0, none⟩ = some (.string np) ∧ W'.cell? ⟨w.heap.size + 1, 1, none⟩ = some (.int .i64 nk) ∧ W'.cell? ⟨w.heap.size + 1, 2, none⟩ = some (.string nd) ∧ W'.cell? ⟨w.heap.size + 1, 3, none⟩ = some (.int .i64 nt) ∧ W'.cell? ⟨w.heap.size + 1, 4, none⟩ = some (.int .i64 nm))) := fun W' hb' => ⟨hb', (hb'.cell (p := ⟨X, 0, none⟩) hlt0).trans c0, (hb'.cell (p := ⟨w.heap.size + 1, 0, none⟩) hlt1).trans n0, (hb'.cell (p := ⟨w.heap.size + 1, 1, none⟩) hlt1).trans n1, (hb'.cell (p := ⟨w.heap.size + 1, 2, none⟩) hlt1).trans n2, (hb'.cell (p := ⟨w.heap.size + 1, 3, none⟩) hlt1).trans n3, (hb'.cell (p := ⟨w.heap.size + 1, 4, none⟩) hlt1).trans n4⟩
  clear c0 n0 n1 n2 n3 n4 hlt0 hlt1
  go_wp2_with fail
  refine wp_merge (R := fun T T' W => ∃ (Y : Nat) (aw : Option Addr) (cw : Nat), T' = (((((T).setIfInBounds 30 (.agg #[.slice (some ⟨g2, 0, none⟩) L.length L.length])).setIfInBounds 31 (.agg #[.string np, .int .i64 nk, .string nd, .int .i64 nt, .int .i64 nm])).setIfInBounds 32 (.agg #[.string np, .int .i64 nk, .string nd, .int .i64 nt, .int .i64 nm])).setIfInBounds 33 (.agg #[.slice aw O.length cw, .int .i64 c])).setIfInBounds 8 (.pointer (some ⟨Y, 0, none⟩)) ∧ WMarkP.Got w6 W Y aw cw O c) ?_ ?_
  · refine wp_region_held_drew (S := fun W' => Below w6.heap.size w6 W' ∧ W'.cell? ⟨X, 0, none⟩ = some (.slice (some ⟨g2, 0, none⟩) L.length L.length) ∧ W'.cell? ⟨w.heap.size + 1, 0, none⟩ = some (.string np) ∧ W'.cell? ⟨w.heap.size + 1, 1, none⟩ = some (.int .i64 nk) ∧ W'.cell? ⟨w.heap.size + 1, 2, none⟩ = some (.string nd) ∧ W'.cell? ⟨w.heap.size + 1, 3, none⟩ = some (.int .i64 nt) ∧ W'.cell? ⟨w.heap.size + 1, 4, none⟩ = some (.int .i64 nm)) (by kernel_rfl) ?_ (fun hHeld => ?_)
    · exact unhide MK _ ((Below.refl _ _).trans ⟨rfl, rfl, rfl, Nat.le_refl _, fun _ _ => rfl⟩)
    generalize w6.drew = D0 at hHeld ⊢
    replace hn1 := Mem.nodes_call hn1 hHeld.1
    refine wpAnyH_take (i := 0) (v := ?_) rfl (by kernel_rfl) (by kernel_rfl) (by kernel_rfl) (fun _ _ _ h => nomatch h.1) (Or.inl ⟨by rfl, ?_⟩) (by assumption) ?_
    rotate_left
    · (intro w hSw; (try dsimp only at hSw); go_simp; (try with_reducible rfl))
    try simp only [Act.put, kB0, kB1, kB2, kB3, kB4, kB5]
    refine wpAnyH_take (i := 1) (v := ?_) rfl (by kernel_rfl) (by kernel_rfl) (by kernel_rfl) (fun _ _ _ h => nomatch h.1) (Or.inl ⟨by rfl, ?_⟩) (by assumption) ?_
    rotate_left
    · (intro w hSw; (try dsimp only at hSw); go_simp; (try with_reducible rfl))
    try simp only [Act.put, kB0, kB1, kB2, kB3, kB4, kB5]
    refine wpAnyH_ready (rs := [2, 4]) (by kernel_rfl) (by simp) ?_
    refine AllReadyH.cons rfl (fun K hK => ?_) (AllReadyH.cons rfl (fun K hK => ?_) (AllReadyH.nil))
    · go_simp
      refine (unhide htn _).mono ?_
      rintro e XN ⟨rfl, bX⟩
      replace hn1 := Mem.nodes_call hn1 bX
      refine hK.out _ _ ?_ (fun hHeld => ?_)
      · exact unhide MK _ (hHeld.1.trans (bX.mono hHeld.1.size))
      clear hK K
      try simp only [Act.put, kB0, kB1, kB2, kB3, kB4, kB5]
      clear bX
      refine wpAnyH_ready (rs := [3, 4]) (by kernel_rfl) (by simp) ?_
      refine AllReadyH.cons rfl (fun K hK => ?_) (AllReadyH.cons rfl (fun K hK => ?_) (AllReadyH.nil))
      · go_simp
        refine (unhide hi g2 _ hl2 hn1 (unhide HZ) (unhide HP) ((unhide HE).call ((unhide KS).bel.trans (hHeld.1.mono (unhide KS).bel.size)))).mono ?_
        rintro e XF ⟨vw, rfl, own, bX⟩
        obtain ⟨aw, cw, rfl⟩ := Mem.own_shape own
        replace own := Mem.ownN_mono own hHeld.1.size
        replace hn1 := Mem.nodes_call hn1 bX
        refine hK.out _ _ ?_ (fun hHeld => ?_)
        · exact unhide MK _ (hHeld.1.trans (bX.mono hHeld.1.size))
        clear hK K
        try simp only [Act.put, kB0, kB1, kB2, kB3, kB4, kB5]
        clear bX
        refine wpAnyH_ready (rs := [4]) (by kernel_rfl) (by simp) ?_
        refine AllReadyH.cons rfl (fun K hK => ?_) (AllReadyH.nil)
        go_simp
        have LY := hHeld.1.size
        have bA : Below XF.heap.size XF (XF.alloc (.cells #[.slice none 0 0, .int .i64 0] 33)) := (Below.refl _ _).alloc (Nat.le_refl _) _
        have ne : ∀ g, (Value.slice aw O.length cw).ownBlock = some g → g ≠ XF.heap.size := fun g hg => by have := (Mem.ownN_lt own g hg).2; omega
        replace hn1 := Mem.nodes_call hn1 bA
        replace own := Mem.ownN_call own bA
        have V := Mem.Blk.new XF #[.slice none 0 0, .int .i64 0] 33
        refine hK.out _ _ ?_ (fun hHeld => ?_)
        · exact unhide MK _ (hHeld.1.trans (bA.mono hHeld.1.size))
        clear hK K
        try simp only [Act.put, kB0, kB1, kB2, kB3, kB4, kB5]
        clear bA
        generalize XF.alloc (.cells #[.slice none 0 0, .int .i64 0] 33) = XA at hHeld V hn1 own ⊢
        generalize XF.heap.size = Y at LY V ne ⊢
        have d0 := V.cell 0
        have d1 := V.cell 1
        have f0 := V.fr 0
        have f1 := V.fr 1
        simp only [kA0, kA1, kA2] at d0 d1
        have GOT := hide (WMarkP.Got.of (c := c) hHeld.1 LY V own ne)
        clear V own ne
        refine wpAnyH_ready (rs := [5]) (by kernel_rfl) (by simp) ?_
        refine AllReadyH.cons rfl (fun K hK => ?_) (AllReadyH.nil)
        go_simp
        refine hK.out _ _ ?_ (fun hHeld => ?_)
        · exact unhide MK _ ((unhide GOT).bel)
        clear hK K
        try simp only [Act.put, kB0, kB1, kB2, kB3, kB4, kB5]
        refine wpAnyH_done (by kernel_rfl) ?_ _
        refine ⟨rfl, rfl, Y, aw, cw, ?_, unhide GOT⟩
        simp only [kB3, kB4, kB5]
      · go_simp
        have LY := hHeld.1.size
        have bA : Below XN.heap.size XN (XN.alloc (.cells #[.slice none 0 0, .int .i64 0] 33)) := (Below.refl _ _).alloc (Nat.le_refl _) _
        replace hn1 := Mem.nodes_call hn1 bA
        have V := Mem.Blk.new XN #[.slice none 0 0, .int .i64 0] 33
        refine hK.out _ _ ?_ (fun hHeld => ?_)
        · exact unhide MK _ (hHeld.1.trans (bA.mono hHeld.1.size))
        clear hK K
        try simp only [Act.put, kB0, kB1, kB2, kB3, kB4, kB5]
        clear bA
        generalize XN.alloc (.cells #[.slice none 0 0, .int .i64 0] 33) = XA at hHeld V hn1 ⊢
        generalize XN.heap.size = Y at LY V ⊢
        refine wpAnyH_ready (rs := [3]) (by kernel_rfl) (by simp) ?_
        refine AllReadyH.cons rfl (fun K hK => ?_) (AllReadyH.nil)
        go_simp
        refine (unhide hi g2 _ hl2 hn1 (unhide HZ) (unhide HP) ((unhide HE).call ((unhide KS).bel.trans (hHeld.1.mono (unhide KS).bel.size)))).mono ?_
        rintro e XF ⟨vw, rfl, own, bX⟩
        obtain ⟨aw, cw, rfl⟩ := Mem.own_shape own
        have ne : ∀ g, (Value.slice aw O.length cw).ownBlock = some g → g ≠ Y := fun g hg => by have := (Mem.ownN_lt own g hg).1; have := V.lt; omega
        replace own := Mem.ownN_mono own hHeld.1.size
        replace hn1 := Mem.nodes_call hn1 bX
        replace V := V.call bX
        refine hK.out _ _ ?_ (fun hHeld => ?_)
        · exact unhide MK _ (hHeld.1.trans (bX.mono hHeld.1.size))
        clear hK K
        try simp only [Act.put, kB0, kB1, kB2, kB3, kB4, kB5]
        clear bX
        have d0 := V.cell 0
        have d1 := V.cell 1
        have f0 := V.fr 0
        have f1 := V.fr 1
        simp only [kA0, kA1, kA2] at d0 d1
        have GOT := hide (WMarkP.Got.of (c := c) hHeld.1 LY V own ne)
        clear V own ne
        refine wpAnyH_ready (rs := [5]) (by kernel_rfl) (by simp) ?_
        refine AllReadyH.cons rfl (fun K hK => ?_) (AllReadyH.nil)
        go_simp
        refine hK.out _ _ ?_ (fun hHeld => ?_)
        · exact unhide MK _ ((unhide GOT).bel)
        clear hK K
        try simp only [Act.put, kB0, kB1, kB2, kB3, kB4, kB5]
        refine wpAnyH_done (by kernel_rfl) ?_ _
        refine ⟨rfl, rfl, Y, aw, cw, ?_, unhide GOT⟩
        simp only [kB3, kB4, kB5]
    · go_simp
      have LY := hHeld.1.size
      have bA : Below D0.heap.size D0 (D0.alloc (.cells #[.slice none 0 0, .int .i64 0] 33)) := (Below.refl _ _).alloc (Nat.le_refl _) _
      replace hn1 := Mem.nodes_call hn1 bA
      have V := Mem.Blk.new D0 #[.slice none 0 0, .int .i64 0] 33
      refine hK.out _ _ ?_ (fun hHeld => ?_)
      · exact unhide MK _ (hHeld.1.trans (bA.mono hHeld.1.size))
      clear hK K
      try simp only [Act.put, kB0, kB1, kB2, kB3, kB4, kB5]
      clear bA
      generalize D0.alloc (.cells #[.slice none 0 0, .int .i64 0] 33) = XA at hHeld V hn1 ⊢
      generalize D0.heap.size = Y at LY V ⊢
      refine wpAnyH_ready (rs := [2]) (by kernel_rfl) (by simp) ?_
      refine AllReadyH.cons rfl (fun K hK => ?_) (AllReadyH.nil)
      go_simp
      refine (unhide htn _).mono ?_
      rintro e XN ⟨rfl, bX⟩
      replace hn1 := Mem.nodes_call hn1 bX
      replace V := V.call bX
      refine hK.out _ _ ?_ (fun hHeld => ?_)
      · exact unhide MK _ (hHeld.1.trans (bX.mono hHeld.1.size))
      clear hK K
      try simp only [Act.put, kB0, kB1, kB2, kB3, kB4, kB5]
      clear bX
      refine wpAnyH_ready (rs := [3]) (by kernel_rfl) (by simp) ?_
      refine AllReadyH.cons rfl (fun K hK => ?_) (AllReadyH.nil)
      go_simp
      refine (unhide hi g2 _ hl2 hn1 (unhide HZ) (unhide HP) ((unhide HE).call ((unhide KS).bel.trans (hHeld.1.mono (unhide KS).bel.size)))).mono ?_
      rintro e XF ⟨vw, rfl, own, bX⟩
      obtain ⟨aw, cw, rfl⟩ := Mem.own_shape own
      have ne : ∀ g, (Value.slice aw O.length cw).ownBlock = some g → g ≠ Y := fun g hg => by have := (Mem.ownN_lt own g hg).1; have := V.lt; omega
      replace own := Mem.ownN_mono own hHeld.1.size
      replace hn1 := Mem.nodes_call hn1 bX
      replace V := V.call bX
      refine hK.out _ _ ?_ (fun hHeld => ?_)
      · exact unhide MK _ (hHeld.1.trans (bX.mono hHeld.1.size))
      clear hK K
      try simp only [Act.put, kB0, kB1, kB2, kB3, kB4, kB5]
      clear bX
      have d0 := V.cell 0
      have d1 := V.cell 1
      have f0 := V.fr 0
      have f1 := V.fr 1
      simp only [kA0, kA1, kA2] at d0 d1
      have GOT := hide (WMarkP.Got.of (c := c) hHeld.1 LY V own ne)
      clear V own ne
      refine wpAnyH_ready (rs := [5]) (by kernel_rfl) (by simp) ?_
      refine AllReadyH.cons rfl (fun K hK => ?_) (AllReadyH.nil)
      go_simp
      refine hK.out _ _ ?_ (fun hHeld => ?_)
      · exact unhide MK _ ((unhide GOT).bel)
      clear hK K
      try simp only [Act.put, kB0, kB1, kB2, kB3, kB4, kB5]
      refine wpAnyH_done (by kernel_rfl) ?_ _
      refine ⟨rfl, rfl, Y, aw, cw, ?_, unhide GOT⟩
      simp only [kB3, kB4, kB5]
  rintro T' w7 ⟨G, ag, cg, rfl, got⟩
  simp only [kB3, kB4, kB5]
  have S8 := hide ((unhide KS).call got.bel)
  have X8 := hide ((unhide KX).call got.bel)
  have G7 := WMarkP.G1.of got
  rw [hX] at G7
  have G8 := hide G7
  clear KS KX MK got G7 hX hn1
  have d0 := (unhide S8).var.cell 0
  have d1 := (unhide S8).var.cell 1
  simp only [kA0, kA1, kA2] at d0 d1
  have e0 := (unhide G8).var.cell 0
  have e1 := (unhide G8).var.cell 1
  simp only [kA0, kA1, kA2] at e0 e1
  go_wp2_with fail
  refine (unhide heo ag aw cg cw _ hol (Mem.ownN_nodes (unhide G8).own).2 (Mem.ownN_nodes (unhide S8).own).2).mono ?_
  rintro e w8 ⟨rfl, b9⟩
  have S9 := (unhide S8).call b9
  have X9 := (unhide X8).call b9
  have G9 := hide ((unhide G8).call b9)
  clear S8 X8 G8 b9 d0 d1 e0 e1
  have c0 := S9.arg.cell 0
  simp only [kA0, kA1, kA2] at c0
  have d0 := X9.var.cell 0
  simp only [kA0, kA1, kA2] at d0
  have hc0 : w.heap.size < w8.heap.size := S9.arg.lt
  have hd0 : X < w8.heap.size := X9.var.lt
  have K9 := hide S9
  have KX := hide X9
  have MK : Hid (∀ W', Below w8.heap.size w8 W' → (Below w8.heap.size w8 W' ∧ W'.cell? ⟨w.heap.size, 0, none⟩ = some (.slice a L.length cap) ∧ W'.cell? ⟨X, 0, none⟩ = some (.slice (some ⟨g2, 0, none⟩) L.length L.length))) := fun W' hb' => ⟨hb', (hb'.cell (p := ⟨w.heap.size, 0, none⟩) hc0).trans c0, (hb'.cell (p := ⟨X, 0, none⟩) hd0).trans d0⟩
  clear c0 d0 hc0 hd0 S9 X9
  go_wp2_with fail
  refine wp_region_held_drew (S := fun W' => Below w8.heap.size w8 W' ∧ W'.cell? ⟨w.heap.size, 0, none⟩ = some (.slice a L.length cap) ∧ W'.cell? ⟨X, 0, none⟩ = some (.slice (some ⟨g2, 0, none⟩) L.length L.length)) (by kernel_rfl) ?_ (fun hHeld => ?_)
  · exact unhide MK _ ((Below.refl _ _).trans ⟨rfl, rfl, rfl, Nat.le_refl _, fun _ _ => rfl⟩)
  refine wpAnyH_take (i := 0) (v := ?_) rfl (by kernel_rfl) (by kernel_rfl) (by kernel_rfl) (fun _ _ _ h => h) (Or.inl ⟨by rfl, ?_⟩) (by assumption) ?_
  rotate_left
  · (intro w hSw; (try dsimp only at hSw); go_simp; (try with_reducible rfl))
  try simp only [Act.put, kB0, kB1, kB2, kB3, kB4, kB5]
  refine wpAnyH_take (i := 1) (v := ?_) rfl (by kernel_rfl) (by kernel_rfl) (by kernel_rfl) (fun _ _ _ h => h) (Or.inl ⟨by rfl, ?_⟩) (by assumption) ?_
  rotate_left
  · (intro w hSw; (try dsimp only at hSw); go_simp; (try with_reducible rfl))
  try simp only [Act.put, kB0, kB1, kB2, kB3, kB4, kB5]
  refine wpAnyH_ready (rs := [2]) (by kernel_rfl) (by simp) ?_
  refine AllReadyH.cons rfl (fun K hK => ?_) AllReadyH.nil
  go_simp
  refine (unhide htt _ ((unhide K9).bel.trans (hHeld.1.mono (unhide K9).bel.size)) hl2).mono ?_
  rintro e wX ⟨g3, rfl, -, -, hn3, bX⟩
  refine hK.out _ _ ?_ (fun hHeld => ?_)
  · exact unhide MK _ (hHeld.1.trans (bX.mono hHeld.1.size))
  clear hK K
  try simp only [Act.put, kB0, kB1, kB2, kB3, kB4, kB5]
  refine wpAnyH_ready (rs := [3]) (by kernel_rfl) (by simp) ?_
  refine AllReadyH.cons rfl (fun K hK => ?_) AllReadyH.nil
  go_simp
  refine (unhide heq g2 g3 _ hl2 (Mem.nodes_call (unhide KX).nodes hHeld.1) hn3).mono ?_
  rintro e wX ⟨rfl, bX⟩
  refine hK.out _ _ ?_ (fun hHeld => ?_)
  · exact unhide MK _ (hHeld.1.trans (bX.mono hHeld.1.size))
  clear hK K
  try simp only [Act.put, kB0, kB1, kB2, kB3, kB4, kB5]
  refine wpAnyH_take (i := 4) (v := ?_) rfl (by kernel_rfl) (by kernel_rfl) (by kernel_rfl) (fun _ _ _ h => h) (Or.inl ⟨by rfl, ?_⟩) (by assumption) ?_
  rotate_left
  · (intro w hSw; (try dsimp only at hSw); go_simp; (try with_reducible rfl))
  try simp only [Act.put, kB0, kB1, kB2, kB3, kB4, kB5]
  refine wpAnyH_done (by kernel_rfl) ?_ _
  have S10 := hide ((unhide K9).call hHeld.1)
  have X10 := hide ((unhide KX).call hHeld.1)
  have G10 := hide ((unhide G9).call hHeld.1)
  clear K9 KX G9 MK hn3 bX heq
  have d0 := (unhide X10).var.cell 0
  simp only [kA0, kA1, kA2] at d0
  clear hHeld
  go_wp2_with fail
  refine (unhide hmx g2 cur _ hl2 (unhide X10).row (by rw [(unhide X10).size]; exact Nat.le_refl _)).mono ?_
  rintro e w11 ⟨rfl, hlaid⟩
  have S11 := (unhide S10).grown hlaid.grown (fun g hg => by cases hg; exact hg2)
  have G11 := (unhide G10).grown hlaid.grown (fun g hg => by cases hg; have := (unhide X10).lt; omega)
  have HK0 : ¬ ((1 + 5 * L.length : Nat) : Int) < 0 := by omega
  clear S10 X10 G10 hlaid hmx d0
  generalize 1 + 5 * L.length = kk at HK0 ⊢
  have d0 := S11.var.cell 0
  have d1 := S11.var.cell 1
  simp only [kA0, kA1, kA2] at d0 d1
  have e0 := G11.var.cell 0
  have e1 := G11.var.cell 1
  simp only [kA0, kA1, kA2] at e0 e1
  have S12 := hide S11
  have G12 := hide G11
  clear S11 G11
  go_wp2_with fail
  refine (unhide heo ag aw cg cw _ hol (Mem.ownN_nodes (unhide G12).own).2 (Mem.ownN_nodes (unhide S12).own).2).mono ?_
  rintro e w13 ⟨rfl, b13⟩
  have S13 := hide ((unhide S12).call b13)
  have G13 := (unhide G12).call b13
  clear S12 G12 b13 d0 d1 e0 e1
  have e0 := G13.var.cell 0
  have e1 := G13.var.cell 1
  simp only [kA0, kA1, kA2] at e0 e1
  have G14 := hide G13
  clear G13
  go_wp2_with fail
  refine (unhide hmo ag cg _ _ hol (unhide G14).own).mono ?_
  rintro e w15 ⟨rfl, hn15, hg15⟩
  have HBG := hide (fun g hg => (Mem.ownN_lt (unhide G14).own g hg).1)
  have S15 := hide ((unhide S13).grown hg15 (fun g hg => by have := unhide HBG g hg; omega))
  have M15 : WMarkN.M0 w15 G ag O.length cg 1 c := ⟨(unhide G14).var.grown hg15 (fun e => (unhide G14).ne _ e.symm rfl), hn15⟩
  have HM0 : ¬ ((1 + 5 * O.length : Nat) : Int) < 0 := by omega
  clear S13 G14 hn15 hg15 hmo e0 e1 HBG
  have e0 := M15.var.cell 0
  have e1 := M15.var.cell 1
  simp only [kA0, kA1, kA2] at e0 e1
  have M16 := hide M15
  clear M15
  generalize 1 + 5 * O.length = mm at HM0 hho ⊢
  go_wp2_with fail
  refine (unhide hho ag cg _ hol (unhide M16).nodes).mono ?_
  rintro e w17 ⟨rfl, b17⟩
  have S17 := (unhide S15).call b17
  have M17 := hide ((unhide M16).call b17)
  clear S15 M16 b17 e0 e1
  have c0 := S17.arg.cell 0
  simp only [kA0, kA1, kA2] at c0
  have n0 := S17.nod.cell 0
  have n1 := S17.nod.cell 1
  have n2 := S17.nod.cell 2
  have n3 := S17.nod.cell 3
  have n4 := S17.nod.cell 4
  simp only [kA0, kA1, kA2] at n0 n1 n2 n3 n4
  have hlt0 := S17.arg.lt
  have hlt1 := S17.nod.lt
  have KS := hide S17
  clear S17
  have MK : Hid (∀ W', Below w17.heap.size w17 W' → (Below w17.heap.size w17 W' ∧ W'.cell? ⟨w.heap.size, 0, none⟩ = some (.slice a L.length cap) ∧ W'.cell? ⟨w.heap.size + 1, 0, none⟩ = some (.string np) ∧ W'.cell? ⟨w.heap.size + 1, 1, none⟩ = some (.int .i64 nk) ∧ W'.cell? ⟨w.heap.size + 1, 2, none⟩ = some (.string nd) ∧ W'.cell? ⟨w.heap.size + 1, 3, none⟩ = some (.int .i64 nt) ∧ W'.cell? ⟨w.heap.size + 1, 4, none⟩ = some (.int .i64 nm))) := fun W' hb' => ⟨hb', (hb'.cell (p := ⟨w.heap.size, 0, none⟩) hlt0).trans c0, (hb'.cell (p := ⟨w.heap.size + 1, 0, none⟩) hlt1).trans n0, (hb'.cell (p := ⟨w.heap.size + 1, 1, none⟩) hlt1).trans n1, (hb'.cell (p := ⟨w.heap.size + 1, 2, none⟩) hlt1).trans n2, (hb'.cell (p := ⟨w.heap.size + 1, 3, none⟩) hlt1).trans n3, (hb'.cell (p := ⟨w.heap.size + 1, 4, none⟩) hlt1).trans n4⟩
  clear c0 n0 n1 n2 n3 n4 hlt0 hlt1
  go_wp2_with fail
  refine wp_merge (R := fun T T' W => ∃ (g1 : Nat) (Y : Nat) (aw : Option Addr) (cw : Nat), T' = ((((((T).setIfInBounds 65 (.agg #[.slice a L.length cap])).setIfInBounds 66 (.agg #[.slice (some ⟨g1, 0, none⟩) L.length L.length])).setIfInBounds 67 (.agg #[.string np, .int .i64 nk, .string nd, .int .i64 nt, .int .i64 nm])).setIfInBounds 68 (.agg #[.string np, .int .i64 nk, .string nd, .int .i64 nt, .int .i64 nm])).setIfInBounds 69 (.agg #[.slice aw O.length cw, .int .i64 c])).setIfInBounds 12 (.pointer (some ⟨Y, 0, none⟩)) ∧ WMarkP.Got w17 W Y aw cw O c) ?_ ?_
  · refine wp_region_held_drew (S := fun W' => Below w17.heap.size w17 W' ∧ W'.cell? ⟨w.heap.size, 0, none⟩ = some (.slice a L.length cap) ∧ W'.cell? ⟨w.heap.size + 1, 0, none⟩ = some (.string np) ∧ W'.cell? ⟨w.heap.size + 1, 1, none⟩ = some (.int .i64 nk) ∧ W'.cell? ⟨w.heap.size + 1, 2, none⟩ = some (.string nd) ∧ W'.cell? ⟨w.heap.size + 1, 3, none⟩ = some (.int .i64 nt) ∧ W'.cell? ⟨w.heap.size + 1, 4, none⟩ = some (.int .i64 nm)) (by kernel_rfl) ?_ (fun hHeld => ?_)
    · exact unhide MK _ ((Below.refl _ _).trans ⟨rfl, rfl, rfl, Nat.le_refl _, fun _ _ => rfl⟩)
    generalize w17.drew = D0 at hHeld ⊢
    refine wpAnyH_take (i := 0) (v := ?_) rfl (by kernel_rfl) (by kernel_rfl) (by kernel_rfl) (fun _ _ _ h => nomatch h.1) (Or.inl ⟨by rfl, ?_⟩) (by assumption) ?_
    rotate_left
    · (intro w hSw; (try dsimp only at hSw); go_simp; (try with_reducible rfl))
    try simp only [Act.put, kB0, kB1, kB2, kB3, kB4, kB5]
    refine wpAnyH_take (i := 2) (v := ?_) rfl (by kernel_rfl) (by kernel_rfl) (by kernel_rfl) (fun _ _ _ h => nomatch h.1) (Or.inl ⟨by rfl, ?_⟩) (by assumption) ?_
    rotate_left
    · (intro w hSw; (try dsimp only at hSw); go_simp; (try with_reducible rfl))
    try simp only [Act.put, kB0, kB1, kB2, kB3, kB4, kB5]
    refine wpAnyH_ready (rs := [1, 5]) (by kernel_rfl) (by simp) ?_
    refine AllReadyH.cons rfl (fun K hK => ?_) (AllReadyH.cons rfl (fun K hK => ?_) (AllReadyH.nil))
    · go_simp
      refine (unhide htt _ ((unhide KS).bel.trans (hHeld.1.mono (unhide KS).bel.size)) hl2).mono ?_
      rintro e XT ⟨g1, rfl, -, ⟨cu1, hro1, -⟩, hn1, bX⟩
      have hg1 : g1 < XT.heap.size := (Array.getElem?_eq_some_iff.1 hro1).1
      clear hro1
      refine hK.out _ _ ?_ (fun hHeld => ?_)
      · exact unhide MK _ (hHeld.1.trans (bX.mono hHeld.1.size))
      clear hK K
      try simp only [Act.put, kB0, kB1, kB2, kB3, kB4, kB5]
      clear bX
      refine wpAnyH_ready (rs := [3, 5]) (by kernel_rfl) (by simp) ?_
      refine AllReadyH.cons rfl (fun K hK => ?_) (AllReadyH.cons rfl (fun K hK => ?_) (AllReadyH.nil))
      · go_simp
        refine (unhide htn _).mono ?_
        rintro e XN ⟨rfl, bX⟩
        replace hn1 := Mem.nodes_call hn1 bX
        replace hg1 := Nat.lt_of_lt_of_le hg1 bX.size
        refine hK.out _ _ ?_ (fun hHeld => ?_)
        · exact unhide MK _ (hHeld.1.trans (bX.mono hHeld.1.size))
        clear hK K
        try simp only [Act.put, kB0, kB1, kB2, kB3, kB4, kB5]
        clear bX
        refine wpAnyH_ready (rs := [4, 5]) (by kernel_rfl) (by simp) ?_
        refine AllReadyH.cons rfl (fun K hK => ?_) (AllReadyH.cons rfl (fun K hK => ?_) (AllReadyH.nil))
        · go_simp
          refine (unhide hi g1 _ hl2 hn1 (unhide HZ) (unhide HP) ((unhide HE).call ((unhide KS).bel.trans (hHeld.1.mono (unhide KS).bel.size)))).mono ?_
          rintro e XF ⟨vw, rfl, own, bX⟩
          obtain ⟨aw, cw, rfl⟩ := Mem.own_shape own
          replace own := Mem.ownN_mono own hHeld.1.size
          replace hn1 := Mem.nodes_call hn1 bX
          replace hg1 := Nat.lt_of_lt_of_le hg1 bX.size
          refine hK.out _ _ ?_ (fun hHeld => ?_)
          · exact unhide MK _ (hHeld.1.trans (bX.mono hHeld.1.size))
          clear hK K
          try simp only [Act.put, kB0, kB1, kB2, kB3, kB4, kB5]
          clear bX
          refine wpAnyH_ready (rs := [5]) (by kernel_rfl) (by simp) ?_
          refine AllReadyH.cons rfl (fun K hK => ?_) (AllReadyH.nil)
          go_simp
          have LY := hHeld.1.size
          have bA : Below XF.heap.size XF (XF.alloc (.cells #[.slice none 0 0, .int .i64 0] 33)) := (Below.refl _ _).alloc (Nat.le_refl _) _
          have ne : ∀ g, (Value.slice aw O.length cw).ownBlock = some g → g ≠ XF.heap.size := fun g hg => by have := (Mem.ownN_lt own g hg).2; omega
          replace hn1 := Mem.nodes_call hn1 bA
          replace hg1 := Nat.lt_of_lt_of_le hg1 bA.size
          replace own := Mem.ownN_call own bA
          have V := Mem.Blk.new XF #[.slice none 0 0, .int .i64 0] 33
          refine hK.out _ _ ?_ (fun hHeld => ?_)
          · exact unhide MK _ (hHeld.1.trans (bA.mono hHeld.1.size))
          clear hK K
          try simp only [Act.put, kB0, kB1, kB2, kB3, kB4, kB5]
          clear bA
          generalize XF.alloc (.cells #[.slice none 0 0, .int .i64 0] 33) = XA at hHeld V hn1 hg1 own ⊢
          generalize XF.heap.size = Y at LY V ne ⊢
          have d0 := V.cell 0
          have d1 := V.cell 1
          have f0 := V.fr 0
          have f1 := V.fr 1
          simp only [kA0, kA1, kA2] at d0 d1
          have GOT := hide (WMarkP.Got.of (c := c) hHeld.1 LY V own ne)
          clear V own ne
          refine wpAnyH_ready (rs := [6]) (by kernel_rfl) (by simp) ?_
          refine AllReadyH.cons rfl (fun K hK => ?_) (AllReadyH.nil)
          go_simp
          refine hK.out _ _ ?_ (fun hHeld => ?_)
          · exact unhide MK _ ((unhide GOT).bel)
          clear hK K
          try simp only [Act.put, kB0, kB1, kB2, kB3, kB4, kB5]
          refine wpAnyH_done (by kernel_rfl) ?_ _
          refine ⟨rfl, rfl, g1, Y, aw, cw, ?_, unhide GOT⟩
          simp only [kB3, kB4, kB5]
        · go_simp
          have LY := hHeld.1.size
          have bA : Below XN.heap.size XN (XN.alloc (.cells #[.slice none 0 0, .int .i64 0] 33)) := (Below.refl _ _).alloc (Nat.le_refl _) _
          replace hn1 := Mem.nodes_call hn1 bA
          replace hg1 := Nat.lt_of_lt_of_le hg1 bA.size
          have V := Mem.Blk.new XN #[.slice none 0 0, .int .i64 0] 33
          refine hK.out _ _ ?_ (fun hHeld => ?_)
          · exact unhide MK _ (hHeld.1.trans (bA.mono hHeld.1.size))
          clear hK K
          try simp only [Act.put, kB0, kB1, kB2, kB3, kB4, kB5]
          clear bA
          generalize XN.alloc (.cells #[.slice none 0 0, .int .i64 0] 33) = XA at hHeld V hn1 hg1 ⊢
          generalize XN.heap.size = Y at LY V ⊢
          refine wpAnyH_ready (rs := [4]) (by kernel_rfl) (by simp) ?_
          refine AllReadyH.cons rfl (fun K hK => ?_) (AllReadyH.nil)
          go_simp
          refine (unhide hi g1 _ hl2 hn1 (unhide HZ) (unhide HP) ((unhide HE).call ((unhide KS).bel.trans (hHeld.1.mono (unhide KS).bel.size)))).mono ?_
          rintro e XF ⟨vw, rfl, own, bX⟩
          obtain ⟨aw, cw, rfl⟩ := Mem.own_shape own
          have ne : ∀ g, (Value.slice aw O.length cw).ownBlock = some g → g ≠ Y := fun g hg => by have := (Mem.ownN_lt own g hg).1; have := V.lt; omega
          replace own := Mem.ownN_mono own hHeld.1.size
          replace hn1 := Mem.nodes_call hn1 bX
          replace hg1 := Nat.lt_of_lt_of_le hg1 bX.size
          replace V := V.call bX
          refine hK.out _ _ ?_ (fun hHeld => ?_)
          · exact unhide MK _ (hHeld.1.trans (bX.mono hHeld.1.size))
          clear hK K
          try simp only [Act.put, kB0, kB1, kB2, kB3, kB4, kB5]
          clear bX
          have d0 := V.cell 0
          have d1 := V.cell 1
          have f0 := V.fr 0
          have f1 := V.fr 1
          simp only [kA0, kA1, kA2] at d0 d1
          have GOT := hide (WMarkP.Got.of (c := c) hHeld.1 LY V own ne)
          clear V own ne
          refine wpAnyH_ready (rs := [6]) (by kernel_rfl) (by simp) ?_
          refine AllReadyH.cons rfl (fun K hK => ?_) (AllReadyH.nil)
          go_simp
          refine hK.out _ _ ?_ (fun hHeld => ?_)
          · exact unhide MK _ ((unhide GOT).bel)
          clear hK K
          try simp only [Act.put, kB0, kB1, kB2, kB3, kB4, kB5]
          refine wpAnyH_done (by kernel_rfl) ?_ _
          refine ⟨rfl, rfl, g1, Y, aw, cw, ?_, unhide GOT⟩
          simp only [kB3, kB4, kB5]
      · go_simp
        have LY := hHeld.1.size
        have bA : Below XT.heap.size XT (XT.alloc (.cells #[.slice none 0 0, .int .i64 0] 33)) := (Below.refl _ _).alloc (Nat.le_refl _) _
        replace hn1 := Mem.nodes_call hn1 bA
        replace hg1 := Nat.lt_of_lt_of_le hg1 bA.size
        have V := Mem.Blk.new XT #[.slice none 0 0, .int .i64 0] 33
        refine hK.out _ _ ?_ (fun hHeld => ?_)
        · exact unhide MK _ (hHeld.1.trans (bA.mono hHeld.1.size))
        clear hK K
        try simp only [Act.put, kB0, kB1, kB2, kB3, kB4, kB5]
        clear bA
        generalize XT.alloc (.cells #[.slice none 0 0, .int .i64 0] 33) = XA at hHeld V hn1 hg1 ⊢
        generalize XT.heap.size = Y at LY V ⊢
        refine wpAnyH_ready (rs := [3]) (by kernel_rfl) (by simp) ?_
        refine AllReadyH.cons rfl (fun K hK => ?_) (AllReadyH.nil)
        go_simp
        refine (unhide htn _).mono ?_
        rintro e XN ⟨rfl, bX⟩
        replace hn1 := Mem.nodes_call hn1 bX
        replace hg1 := Nat.lt_of_lt_of_le hg1 bX.size
        replace V := V.call bX
        refine hK.out _ _ ?_ (fun hHeld => ?_)
        · exact unhide MK _ (hHeld.1.trans (bX.mono hHeld.1.size))
        clear hK K
        try simp only [Act.put, kB0, kB1, kB2, kB3, kB4, kB5]
        clear bX
        refine wpAnyH_ready (rs := [4]) (by kernel_rfl) (by simp) ?_
        refine AllReadyH.cons rfl (fun K hK => ?_) (AllReadyH.nil)
        go_simp
        refine (unhide hi g1 _ hl2 hn1 (unhide HZ) (unhide HP) ((unhide HE).call ((unhide KS).bel.trans (hHeld.1.mono (unhide KS).bel.size)))).mono ?_
        rintro e XF ⟨vw, rfl, own, bX⟩
        obtain ⟨aw, cw, rfl⟩ := Mem.own_shape own
        have ne : ∀ g, (Value.slice aw O.length cw).ownBlock = some g → g ≠ Y := fun g hg => by have := (Mem.ownN_lt own g hg).1; have := V.lt; omega
        replace own := Mem.ownN_mono own hHeld.1.size
        replace hn1 := Mem.nodes_call hn1 bX
        replace hg1 := Nat.lt_of_lt_of_le hg1 bX.size
        replace V := V.call bX
        refine hK.out _ _ ?_ (fun hHeld => ?_)
        · exact unhide MK _ (hHeld.1.trans (bX.mono hHeld.1.size))
        clear hK K
        try simp only [Act.put, kB0, kB1, kB2, kB3, kB4, kB5]
        clear bX
        have d0 := V.cell 0
        have d1 := V.cell 1
        have f0 := V.fr 0
        have f1 := V.fr 1
        simp only [kA0, kA1, kA2] at d0 d1
        have GOT := hide (WMarkP.Got.of (c := c) hHeld.1 LY V own ne)
        clear V own ne
        refine wpAnyH_ready (rs := [6]) (by kernel_rfl) (by simp) ?_
        refine AllReadyH.cons rfl (fun K hK => ?_) (AllReadyH.nil)
        go_simp
        refine hK.out _ _ ?_ (fun hHeld => ?_)
        · exact unhide MK _ ((unhide GOT).bel)
        clear hK K
        try simp only [Act.put, kB0, kB1, kB2, kB3, kB4, kB5]
        refine wpAnyH_done (by kernel_rfl) ?_ _
        refine ⟨rfl, rfl, g1, Y, aw, cw, ?_, unhide GOT⟩
        simp only [kB3, kB4, kB5]
    · go_simp
      have LY := hHeld.1.size
      have bA : Below D0.heap.size D0 (D0.alloc (.cells #[.slice none 0 0, .int .i64 0] 33)) := (Below.refl _ _).alloc (Nat.le_refl _) _
      have V := Mem.Blk.new D0 #[.slice none 0 0, .int .i64 0] 33
      refine hK.out _ _ ?_ (fun hHeld => ?_)
      · exact unhide MK _ (hHeld.1.trans (bA.mono hHeld.1.size))
      clear hK K
      try simp only [Act.put, kB0, kB1, kB2, kB3, kB4, kB5]
      clear bA
      generalize D0.alloc (.cells #[.slice none 0 0, .int .i64 0] 33) = XA at hHeld V ⊢
      generalize D0.heap.size = Y at LY V ⊢
      refine wpAnyH_ready (rs := [1]) (by kernel_rfl) (by simp) ?_
      refine AllReadyH.cons rfl (fun K hK => ?_) (AllReadyH.nil)
      go_simp
      refine (unhide htt _ ((unhide KS).bel.trans (hHeld.1.mono (unhide KS).bel.size)) hl2).mono ?_
      rintro e XT ⟨g1, rfl, -, ⟨cu1, hro1, -⟩, hn1, bX⟩
      have hg1 : g1 < XT.heap.size := (Array.getElem?_eq_some_iff.1 hro1).1
      clear hro1
      replace V := V.call bX
      refine hK.out _ _ ?_ (fun hHeld => ?_)
      · exact unhide MK _ (hHeld.1.trans (bX.mono hHeld.1.size))
      clear hK K
      try simp only [Act.put, kB0, kB1, kB2, kB3, kB4, kB5]
      clear bX
      refine wpAnyH_ready (rs := [3]) (by kernel_rfl) (by simp) ?_
      refine AllReadyH.cons rfl (fun K hK => ?_) (AllReadyH.nil)
      go_simp
      refine (unhide htn _).mono ?_
      rintro e XN ⟨rfl, bX⟩
      replace hn1 := Mem.nodes_call hn1 bX
      replace hg1 := Nat.lt_of_lt_of_le hg1 bX.size
      replace V := V.call bX
      refine hK.out _ _ ?_ (fun hHeld => ?_)
      · exact unhide MK _ (hHeld.1.trans (bX.mono hHeld.1.size))
      clear hK K
      try simp only [Act.put, kB0, kB1, kB2, kB3, kB4, kB5]
      clear bX
      refine wpAnyH_ready (rs := [4]) (by kernel_rfl) (by simp) ?_
      refine AllReadyH.cons rfl (fun K hK => ?_) (AllReadyH.nil)
      go_simp
      refine (unhide hi g1 _ hl2 hn1 (unhide HZ) (unhide HP) ((unhide HE).call ((unhide KS).bel.trans (hHeld.1.mono (unhide KS).bel.size)))).mono ?_
      rintro e XF ⟨vw, rfl, own, bX⟩
      obtain ⟨aw, cw, rfl⟩ := Mem.own_shape own
      have ne : ∀ g, (Value.slice aw O.length cw).ownBlock = some g → g ≠ Y := fun g hg => by have := (Mem.ownN_lt own g hg).1; have := V.lt; omega
      replace own := Mem.ownN_mono own hHeld.1.size
      replace hn1 := Mem.nodes_call hn1 bX
      replace hg1 := Nat.lt_of_lt_of_le hg1 bX.size
      replace V := V.call bX
      refine hK.out _ _ ?_ (fun hHeld => ?_)
      · exact unhide MK _ (hHeld.1.trans (bX.mono hHeld.1.size))
      clear hK K
      try simp only [Act.put, kB0, kB1, kB2, kB3, kB4, kB5]
      clear bX
      have d0 := V.cell 0
      have d1 := V.cell 1
      have f0 := V.fr 0
      have f1 := V.fr 1
      simp only [kA0, kA1, kA2] at d0 d1
      have GOT := hide (WMarkP.Got.of (c := c) hHeld.1 LY V own ne)
      clear V own ne
      refine wpAnyH_ready (rs := [6]) (by kernel_rfl) (by simp) ?_
      refine AllReadyH.cons rfl (fun K hK => ?_) (AllReadyH.nil)
      go_simp
      refine hK.out _ _ ?_ (fun hHeld => ?_)
      · exact unhide MK _ ((unhide GOT).bel)
      clear hK K
      try simp only [Act.put, kB0, kB1, kB2, kB3, kB4, kB5]
      refine wpAnyH_done (by kernel_rfl) ?_ _
      refine ⟨rfl, rfl, g1, Y, aw, cw, ?_, unhide GOT⟩
      simp only [kB3, kB4, kB5]
  rintro T' w20 ⟨g4, H, ah, ch, rfl, got⟩
  simp only [kB3, kB4, kB5]
  have S20 := hide ((unhide KS).call got.bel)
  have M20 := hide ((unhide M17).call got.bel)
  have VH := got.var
  have OH := hide (Mem.ownN_nodes got.own).2
  clear KS M17 MK got
  have d0 := (unhide S20).var.cell 0
  have d1 := (unhide S20).var.cell 1
  simp only [kA0, kA1, kA2] at d0 d1
  have e0 := VH.cell 0
  have e1 := VH.cell 1
  simp only [kA0, kA1, kA2] at e0 e1
  go_wp2_with fail
  refine (unhide heo ah aw ch cw _ hol (unhide OH) (Mem.ownN_nodes (unhide S20).own).2).mono ?_
  rintro e w21 ⟨rfl, b21⟩
  have S21 := hide ((unhide S20).call b21)
  have M21 := hide ((unhide M20).call b21)
  clear S20 M20 b21 d0 d1 e0 e1 OH VH
  have e0 := (unhide M21).var.cell 0
  have e1 := (unhide M21).var.cell 1
  simp only [kA0, kA1, kA2] at e0 e1
  go_wp2_with fail
  refine (unhide hho ag cg _ hol (unhide M21).nodes).mono ?_
  rintro e w22 ⟨rfl, b22⟩
  have bfin := ((unhide S21).call b22).bel
  clear S21 M21 b22 e0 e1
  go_wp2
  go_ret
  exact ⟨rfl, bfin⟩
end fnExactTreePut
end Go.Proofs.YtepmojmelcngeaaGreatDoor
