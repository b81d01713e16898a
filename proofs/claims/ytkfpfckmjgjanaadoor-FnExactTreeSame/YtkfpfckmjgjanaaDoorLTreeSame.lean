/- The walk of the law FnExactTreeSame, over the walks of the two functions and of the laws' own. -/
import Derived.Test.YtkfpfckmjgjanaaDoorG20
import Derived.Test.YtkfpfckmjgjanaaDoorG11
import Derived.Test.YtkfpfckmjgjanaaDoorWLawV
import Derived.Test.YtkfpfckmjgjanaaDoorG13
namespace Go.Proofs.YtkfpfckmjgjanaaDoor
open Go.RowKit
namespace fnExactTreeSame
set_option linter.unusedSimpArgs false in
set_option maxRecDepth 100000 in
set_option maxHeartbeats 2000000 in
theorem walk (a : Option Addr) (A : List Pl.Nd) (cA : Nat) (b : Option Addr) (B : List Pl.Nd) (cB : Nat) (w : World) (okA : OpenT.OkT w a A) (okB : OpenT.OkT w b B) (r1 r2 r3 : TypeId) (x1 x2 x3 : Value) (hE : WNodesI.Errs w r1 r2 r3 x1 x2 x3) :
    Calls Tryd.prog 8 #[.agg #[.slice a A.length cA], .agg #[.slice b B.length cB]] w fun e w' => e = .returned (.bool true) ∧ Below w.heap.size w w' := by
  obtain ⟨hlA, hvA, hokA⟩ := okA
  obtain ⟨hlB, hvB, hokB⟩ := okB
  have b0 : Below w.heap.size w ((w.alloc (.cells #[.slice a A.length cA] 47)).alloc (.cells #[.slice b B.length cB] 47)) := ((Below.refl _ _).alloc (Nat.le_refl _) _).alloc (by simp) _
  have va := Mem.var_alloc (Mem.var_new w [.slice a A.length cA] 47) (.cells #[.slice b B.length cB] 47)
  have vb := Mem.var_new (w.alloc (.cells #[.slice a A.length cA] 47)) [.slice b B.length cB] 47
  rw [show (w.alloc (.cells #[.slice a A.length cA] 47)).heap.size = w.heap.size + 1 by simp] at vb
  have hszA := hide (fun W (b : Below w.heap.size w W) => WLaw.szTree_any a cA A W hlA (Mem.nodes_call hvA b) (fun n hn => ⟨(hokA n hn).1, (hokA n hn).2.1⟩))
  have hszB := hide (fun (l : Int) h1 h2 W (bw : Below w.heap.size w W) => WLaw.szTreeV_any b cB l h1 h2 B W hlB (Mem.nodes_call hvB bw) (fun n hn => ⟨(hokB n hn).1, (hokB n hn).2.1⟩))
  have httA := hide (fun W (b : Below w.heap.size w W) (h2 : A.length ≤ 1048576) => WLaw.toTree_any a cA A W h2 (Mem.nodes_call hvA b))
  have httB := hide (fun W (bw : Below w.heap.size w W) (h2 : B.length ≤ 1048576) => WLaw.toTree_any b cB B W h2 (Mem.nodes_call hvB bw))
  have heqA := hide (fun (g g' : Nat) W (h2 : A.length ≤ 1048576) h3 h4 => WLaw.eqTree_any (some ⟨g, 0, none⟩) (some ⟨g', 0, none⟩) A.length A.length A W h2 h3 h4)
  have heqB := hide (fun (g g' : Nat) W (h2 : B.length ≤ 1048576) h3 h4 => WLaw.eqTree_any (some ⟨g, 0, none⟩) (some ⟨g', 0, none⟩) B.length B.length B W h2 h3 h4)
  have hs := hide (fun (g g' : Nat) W (h2 : A.length ≤ 1048576) (h2' : B.length ≤ 1048576) h3 h4 h5 h6 => WSameT.spec_any (some ⟨g, 0, none⟩) (some ⟨g', 0, none⟩) A.length B.length A B W h2 h2' h3 h4 h5 h6)
  have hi := hide (fun (g g' : Nat) W (h2 : A.length ≤ 1048576) (h2' : B.length ≤ 1048576) h3 h4 h5 h6 h7 => WSameT.impl_any (some ⟨g, 0, none⟩) (some ⟨g', 0, none⟩) A.length B.length A B W h2 h2' h3 h4 h5 h6 r1 r2 r3 x1 x2 x3 h7)
  generalize WSameT.sameB A B = V at hs hi
  have HE := hide hE
  clear hvA hokA hvB hokB hE
  go_enter Tryd.func8, Tryd.ntmps8
  go_wp2_with fail
  refine (unhide hszA _ b0).mono ?_
  rintro e w1 ⟨⟨r, rfl, hr⟩, b1⟩
  have bw1 := b0.trans (b1.mono b0.size)
  have va1 := Mem.var_call va b1
  have vb1 := Mem.var_call vb b1
  clear b0 b1 va vb hszA
  rcases hr with rfl | ⟨hr0, hr1, hlA2, hzA⟩
  · clear va1 vb1
    go_wp2
    go_ret
    exact ⟨rfl, bw1⟩
  have hr2 : ¬ r < 0 := by omega
  have HZA := hide hzA
  clear hzA
  have c0 := vb1.2 0 _ rfl
  go_wp2_with fail
  refine (unhide hszB r hr0 hr1 _ bw1).mono ?_
  rintro e w2 ⟨⟨s, rfl, hq⟩, b2⟩
  have bw2 := bw1.trans (b2.mono bw1.size)
  have va2 := Mem.var_call va1 b2
  have vb2 := Mem.var_call vb1 b2
  clear bw1 b2 va1 vb1 hszB c0
  rcases hq with rfl | ⟨hs0, hs1, hlB2, hzB⟩
  · clear va2 vb2
    go_wp2
    go_ret
    exact ⟨rfl, bw2⟩
  have hs2 : ¬ s < 0 := by omega
  have HZB := hide hzB
  clear hzB
  have MK2 : Hid (∀ W', Below w2.heap.size w2 W' → (Below w2.heap.size w2 W' ∧ W'.cell? ⟨w.heap.size, 0, none⟩ = some (.slice a A.length cA) ∧ W'.cell? ⟨w.heap.size + 1, 0, none⟩ = some (.slice b B.length cB))) := fun W' hb' => ⟨hb', (hb'.cell (p := ⟨w.heap.size, 0, none⟩) va2.1).trans (va2.2 0 _ rfl), (hb'.cell (p := ⟨w.heap.size + 1, 0, none⟩) vb2.1).trans (vb2.2 0 _ rfl)⟩
  have HVA := hide va2
  have HVB := hide vb2
  clear va2 vb2
  go_wp2_with fail
  refine wp_region_held_drew (S := fun W' => Below w2.heap.size w2 W' ∧ W'.cell? ⟨w.heap.size, 0, none⟩ = some (.slice a A.length cA) ∧ W'.cell? ⟨w.heap.size + 1, 0, none⟩ = some (.slice b B.length cB)) (by kernel_rfl) ?_ (fun hHeld => ?_)
  · exact unhide MK2 _ ((Below.refl _ _).trans ⟨rfl, rfl, rfl, Nat.le_refl _, fun _ _ => rfl⟩)
  refine wpAnyH_take (i := 0) (v := ?_) rfl (by kernel_rfl) (by kernel_rfl) (by kernel_rfl) (fun _ _ _ h => h) (Or.inl ⟨by rfl, ?_⟩) (by assumption) ?_
  rotate_left
  · (intro w hSw; (try dsimp only at hSw); go_simp; (try with_reducible rfl))
  try simp only [Act.put, kB0, kB1, kB2, kB3, kB4, kB5]
  refine wpAnyH_take (i := 2) (v := ?_) rfl (by kernel_rfl) (by kernel_rfl) (by kernel_rfl) (fun _ _ _ h => h) (Or.inl ⟨by rfl, ?_⟩) (by assumption) ?_
  rotate_left
  · (intro w hSw; (try dsimp only at hSw); go_simp; (try with_reducible rfl))
  try simp only [Act.put, kB0, kB1, kB2, kB3, kB4, kB5]
  refine wpAnyH_ready (rs := [1]) (by kernel_rfl) (by simp) ?_
  refine AllReadyH.cons rfl (fun K hK => ?_) AllReadyH.nil
  go_simp
  refine (unhide httA _ (bw2.trans (hHeld.1.mono bw2.size)) hlA2).mono ?_
  rintro e wX ⟨g1, rfl, -, hn1, bX⟩
  refine hK.out _ _ ?_ (fun hHeld => ?_)
  · exact unhide MK2 _ (hHeld.1.trans (bX.mono hHeld.1.size))
  clear hK K
  try simp only [Act.put, kB0, kB1, kB2, kB3, kB4, kB5]
  refine wpAnyH_ready (rs := [3]) (by kernel_rfl) (by simp) ?_
  refine AllReadyH.cons rfl (fun K hK => ?_) AllReadyH.nil
  go_simp
  refine (unhide httB _ (bw2.trans (hHeld.1.mono bw2.size)) hlB2).mono ?_
  rintro e wY ⟨g2, rfl, -, hn2, bY⟩
  refine hK.out _ _ ?_ (fun hHeld => ?_)
  · exact unhide MK2 _ (hHeld.1.trans (bY.mono hHeld.1.size))
  clear hK K
  try simp only [Act.put, kB0, kB1, kB2, kB3, kB4, kB5]
  refine wpAnyH_ready (rs := [4]) (by kernel_rfl) (by simp) ?_
  refine AllReadyH.cons rfl (fun K hK => ?_) AllReadyH.nil
  go_simp
  refine (unhide hs g1 g2 _ hlA2 hlB2 (Mem.nodes_call hn1 bY) hn2 (unhide HZA) (unhide HZB)).mono ?_
  rintro e w3 ⟨rfl, bZ⟩
  refine hK.out _ _ ?_ (fun hHeld => ?_)
  · exact unhide MK2 _ (hHeld.1.trans (bZ.mono hHeld.1.size))
  clear hK K
  try simp only [Act.put, kB0, kB1, kB2, kB3, kB4, kB5]
  refine wpAnyH_take (i := 5) (v := ?_) rfl (by kernel_rfl) (by kernel_rfl) (by kernel_rfl) (fun _ _ _ h => h) (Or.inl ⟨by rfl, ?_⟩) (by assumption) ?_
  rotate_left
  · (intro w hSw; (try dsimp only at hSw); go_simp; (try with_reducible rfl))
  try simp only [Act.put, kB0, kB1, kB2, kB3, kB4, kB5]
  refine wpAnyH_done (by kernel_rfl) ?_ _
  have bw3 := bw2.trans (hHeld.1.mono bw2.size)
  have va3 := Mem.var_call (unhide HVA) hHeld.1
  have vb3 := Mem.var_call (unhide HVB) hHeld.1
  clear hHeld MK2 bX bY bZ hn1 hn2 HVA HVB bw2 hs
  have c0 := va3.2 0 _ rfl
  go_wp2_with fail
  refine (unhide httA _ bw3 hlA2).mono ?_
  rintro e w4 ⟨g3, rfl, -, hn3, b4⟩
  have bw4 := bw3.trans (b4.mono bw3.size)
  have va4 := Mem.var_call va3 b4
  have vb4 := Mem.var_call vb3 b4
  have hx0 := Mem.var_new w4 [.slice (some ⟨g3, 0, none⟩) A.length A.length] 32
  have b5 : Below w4.heap.size w4 (w4.alloc (.cells #[.slice (some ⟨g3, 0, none⟩) A.length A.length] 32)) := (Below.refl _ _).alloc (Nat.le_refl _) _
  have bw5 := bw4.trans (b5.mono bw4.size)
  have va5 := Mem.var_call va4 b5
  have vb5 := Mem.var_call vb4 b5
  have HN3 := hide (Mem.nodes_call hn3 b5)
  clear bw3 b4 va3 vb3 c0 hn3 bw4 va4 vb4 b5
  have d0 := vb5.2 0 _ rfl
  go_wp2_with fail
  refine (unhide httB _ bw5 hlB2).mono ?_
  rintro e w6 ⟨g4, rfl, -, hn4, b6⟩
  have bw6 := bw5.trans (b6.mono bw5.size)
  have va6 := Mem.var_call va5 b6
  have vb6 := Mem.var_call vb5 b6
  have hx6 := Mem.var_call hx0 b6
  have HN3' := hide (Mem.nodes_call (unhide HN3) b6)
  clear bw5 b6 va5 vb5 d0 hx0 HN3
  generalize w4.heap.size = X at hx6 ⊢
  have hy0 := Mem.var_new w6 [.slice (some ⟨g4, 0, none⟩) B.length B.length] 32
  have b7 : Below w6.heap.size w6 (w6.alloc (.cells #[.slice (some ⟨g4, 0, none⟩) B.length B.length] 32)) := (Below.refl _ _).alloc (Nat.le_refl _) _
  have bw7 := bw6.trans (b7.mono bw6.size)
  have va7 := Mem.var_call va6 b7
  have vb7 := Mem.var_call vb6 b7
  have hx7 := Mem.var_call hx6 b7
  have HNA := hide (Mem.nodes_call (unhide HN3') b7)
  have HNB := hide (Mem.nodes_call hn4 b7)
  have hE7 := hide ((unhide HE).call bw7)
  clear bw6 va6 vb6 hx6 HN3' hn4 b7
  have d0 := hx7.2 0 _ rfl
  go_wp2_with fail
  refine (unhide hi g3 g4 _ hlA2 hlB2 (unhide HNA) (unhide HNB) (unhide HZA) (unhide HZB) (unhide hE7)).mono ?_
  rintro e w8 ⟨rfl, b8⟩
  have bw8 := bw7.trans (b8.mono bw7.size)
  have va8 := Mem.var_call va7 b8
  have vb8 := Mem.var_call vb7 b8
  have hx8 := Mem.var_call hx7 b8
  have hy8 := Mem.var_call hy0 b8
  have HNA8 := hide (Mem.nodes_call (unhide HNA) b8)
  have HNB8 := hide (Mem.nodes_call (unhide HNB) b8)
  clear bw7 b8 va7 vb7 hx7 hy0 HNA HNB hE7 hi d0
  generalize w6.heap.size = Y at hy8 ⊢
  have MK8 : Hid (∀ W', Below w8.heap.size w8 W' → (Below w8.heap.size w8 W' ∧ W'.cell? ⟨w.heap.size, 0, none⟩ = some (.slice a A.length cA) ∧ W'.cell? ⟨w.heap.size + 1, 0, none⟩ = some (.slice b B.length cB) ∧ W'.cell? ⟨X, 0, none⟩ = some (.slice (some ⟨g3, 0, none⟩) A.length A.length) ∧ W'.cell? ⟨Y, 0, none⟩ = some (.slice (some ⟨g4, 0, none⟩) B.length B.length))) := fun W' hb' => ⟨hb', (hb'.cell (p := ⟨w.heap.size, 0, none⟩) va8.1).trans (va8.2 0 _ rfl), (hb'.cell (p := ⟨w.heap.size + 1, 0, none⟩) vb8.1).trans (vb8.2 0 _ rfl), (hb'.cell (p := ⟨X, 0, none⟩) hx8.1).trans (hx8.2 0 _ rfl), (hb'.cell (p := ⟨Y, 0, none⟩) hy8.1).trans (hy8.2 0 _ rfl)⟩
  clear va8 vb8 hx8 hy8
  go_wp2_with fail
  refine wp_region_held_drew (S := fun W' => Below w8.heap.size w8 W' ∧ W'.cell? ⟨w.heap.size, 0, none⟩ = some (.slice a A.length cA) ∧ W'.cell? ⟨w.heap.size + 1, 0, none⟩ = some (.slice b B.length cB) ∧ W'.cell? ⟨X, 0, none⟩ = some (.slice (some ⟨g3, 0, none⟩) A.length A.length) ∧ W'.cell? ⟨Y, 0, none⟩ = some (.slice (some ⟨g4, 0, none⟩) B.length B.length)) (by kernel_rfl) ?_ (fun hHeld => ?_)
  · exact unhide MK8 _ ((Below.refl _ _).trans ⟨rfl, rfl, rfl, Nat.le_refl _, fun _ _ => rfl⟩)
  refine wpAnyH_take (i := 0) (v := ?_) rfl (by kernel_rfl) (by kernel_rfl) (by kernel_rfl) (fun _ _ _ h => h) (Or.inl ⟨by rfl, ?_⟩) (by assumption) ?_
  rotate_left
  · (intro w hSw; (try dsimp only at hSw); go_simp; (try with_reducible rfl))
  try simp only [Act.put, kB0, kB1, kB2, kB3, kB4, kB5]
  refine wpAnyH_take (i := 1) (v := ?_) rfl (by kernel_rfl) (by kernel_rfl) (by kernel_rfl) (fun _ _ _ h => h) (Or.inl ⟨by rfl, ?_⟩) (by assumption) ?_
  rotate_left
  · (intro w hSw; (try dsimp only at hSw); go_simp; (try with_reducible rfl))
  try simp only [Act.put, kB0, kB1, kB2, kB3, kB4, kB5]
  refine wpAnyH_ready (rs := [2]) (by kernel_rfl) (by simp) ?_
  refine AllReadyH.cons rfl (fun K hK => ?_) AllReadyH.nil
  go_simp
  refine (unhide httA _ (bw8.trans (hHeld.1.mono bw8.size)) hlA2).mono ?_
  rintro e wE ⟨g5, rfl, -, hn5, bX⟩
  refine hK.out _ _ ?_ (fun hHeld => ?_)
  · exact unhide MK8 _ (hHeld.1.trans (bX.mono hHeld.1.size))
  clear hK K
  try simp only [Act.put, kB0, kB1, kB2, kB3, kB4, kB5]
  refine wpAnyH_ready (rs := [3]) (by kernel_rfl) (by simp) ?_
  refine AllReadyH.cons rfl (fun K hK => ?_) AllReadyH.nil
  go_simp
  refine (unhide heqA g3 g5 _ hlA2 (Mem.nodes_call (unhide HNA8) hHeld.1) hn5).mono ?_
  rintro e wF ⟨rfl, bY⟩
  refine hK.out _ _ ?_ (fun hHeld => ?_)
  · exact unhide MK8 _ (hHeld.1.trans (bY.mono hHeld.1.size))
  clear hK K
  try simp only [Act.put, kB0, kB1, kB2, kB3, kB4, kB5]
  refine wpAnyH_take (i := 4) (v := ?_) rfl (by kernel_rfl) (by kernel_rfl) (by kernel_rfl) (fun _ _ _ h => h) (Or.inl ⟨by rfl, ?_⟩) (by assumption) ?_
  rotate_left
  · (intro w hSw; (try dsimp only at hSw); go_simp; (try with_reducible rfl))
  try simp only [Act.put, kB0, kB1, kB2, kB3, kB4, kB5]
  refine wpAnyH_done (by kernel_rfl) ?_ _
  have hb9 := hHeld.1
  clear hHeld hn5 bX bY
  go_wp2_with fail
  refine wp_region_held_drew (S := fun W' => Below w8.heap.size w8 W' ∧ W'.cell? ⟨w.heap.size, 0, none⟩ = some (.slice a A.length cA) ∧ W'.cell? ⟨w.heap.size + 1, 0, none⟩ = some (.slice b B.length cB) ∧ W'.cell? ⟨X, 0, none⟩ = some (.slice (some ⟨g3, 0, none⟩) A.length A.length) ∧ W'.cell? ⟨Y, 0, none⟩ = some (.slice (some ⟨g4, 0, none⟩) B.length B.length)) (by kernel_rfl) ?_ (fun hHeld => ?_)
  · exact unhide MK8 _ (hb9.trans ⟨rfl, rfl, rfl, Nat.le_refl _, fun _ _ => rfl⟩)
  refine wpAnyH_take (i := 0) (v := ?_) rfl (by kernel_rfl) (by kernel_rfl) (by kernel_rfl) (fun _ _ _ h => h) (Or.inl ⟨by rfl, ?_⟩) (by assumption) ?_
  rotate_left
  · (intro w hSw; (try dsimp only at hSw); go_simp; (try with_reducible rfl))
  try simp only [Act.put, kB0, kB1, kB2, kB3, kB4, kB5]
  refine wpAnyH_take (i := 1) (v := ?_) rfl (by kernel_rfl) (by kernel_rfl) (by kernel_rfl) (fun _ _ _ h => h) (Or.inl ⟨by rfl, ?_⟩) (by assumption) ?_
  rotate_left
  · (intro w hSw; (try dsimp only at hSw); go_simp; (try with_reducible rfl))
  try simp only [Act.put, kB0, kB1, kB2, kB3, kB4, kB5]
  refine wpAnyH_ready (rs := [2]) (by kernel_rfl) (by simp) ?_
  refine AllReadyH.cons rfl (fun K hK => ?_) AllReadyH.nil
  go_simp
  refine (unhide httB _ (bw8.trans (hHeld.1.mono bw8.size)) hlB2).mono ?_
  rintro e wG ⟨g5, rfl, -, hn5, bX⟩
  refine hK.out _ _ ?_ (fun hHeld => ?_)
  · exact unhide MK8 _ (hHeld.1.trans (bX.mono hHeld.1.size))
  clear hK K
  try simp only [Act.put, kB0, kB1, kB2, kB3, kB4, kB5]
  refine wpAnyH_ready (rs := [3]) (by kernel_rfl) (by simp) ?_
  refine AllReadyH.cons rfl (fun K hK => ?_) AllReadyH.nil
  go_simp
  refine (unhide heqB g4 g5 _ hlB2 (Mem.nodes_call (unhide HNB8) hHeld.1) hn5).mono ?_
  rintro e wH ⟨rfl, bY⟩
  refine hK.out _ _ ?_ (fun hHeld => ?_)
  · exact unhide MK8 _ (hHeld.1.trans (bY.mono hHeld.1.size))
  clear hK K
  try simp only [Act.put, kB0, kB1, kB2, kB3, kB4, kB5]
  refine wpAnyH_take (i := 4) (v := ?_) rfl (by kernel_rfl) (by kernel_rfl) (by kernel_rfl) (fun _ _ _ h => h) (Or.inl ⟨by rfl, ?_⟩) (by assumption) ?_
  rotate_left
  · (intro w hSw; (try dsimp only at hSw); go_simp; (try with_reducible rfl))
  try simp only [Act.put, kB0, kB1, kB2, kB3, kB4, kB5]
  refine wpAnyH_done (by kernel_rfl) ?_ _
  have bfin := bw8.trans (hHeld.1.mono bw8.size)
  clear hHeld MK8
  go_wp2
  go_ret
  exact ⟨rfl, bfin⟩
end fnExactTreeSame
end Go.Proofs.YtkfpfckmjgjanaaDoor
