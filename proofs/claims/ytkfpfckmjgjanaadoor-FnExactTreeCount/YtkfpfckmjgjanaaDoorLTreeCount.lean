/- The walk of the law FnExactTreeCount, over the walks of the two functions and of the laws' own. -/
import Derived.Test.YtkfpfckmjgjanaaDoorWCountT
import Derived.Test.YtkfpfckmjgjanaaDoorG11
import Derived.Test.YtkfpfckmjgjanaaDoorG13
namespace Go.Proofs.YtkfpfckmjgjanaaDoor
open Go.RowKit
namespace fnExactTreeCount
set_option linter.unusedSimpArgs false in
set_option maxRecDepth 100000 in
set_option maxHeartbeats 1000000 in
theorem walk (a : Option Addr) (L : List Pl.Nd) (cap : Nat) (w : World) (ok : OpenT.OkT w a L) (r1 r2 r3 : TypeId) (x1 x2 x3 : Value) (hE : WNodesI.Errs w r1 r2 r3 x1 x2 x3) :
    Calls Tryd.prog 7 #[.agg #[.slice a L.length cap]] w fun e w' => e = .returned (.bool true) ∧ Below w.heap.size w w' := by
  obtain ⟨hl, hv, hok⟩ := ok
  have HO := hide hok
  have b0 : Below w.heap.size w (w.alloc (.cells #[.slice a L.length cap] 47)) := (Below.refl _ _).alloc (Nat.le_refl _) _
  have hsz := hide (fun W (b : Below w.heap.size w W) => WLaw.szTree_any a cap L W hl (Mem.nodes_call hv b) (fun n hn => ⟨(hok n hn).1, (hok n hn).2.1⟩))
  have htt := hide (fun W (b : Below w.heap.size w W) (h2 : L.length ≤ 1048576) => WLaw.toTree_any a cap L W h2 (Mem.nodes_call hv b))
  have heq := hide (fun (g g' : Nat) W (h2 : L.length ≤ 1048576) h3 h4 => WLaw.eqTree_any (some ⟨g, 0, none⟩) (some ⟨g', 0, none⟩) L.length L.length L W h2 h3 h4)
  have hs := hide (fun (g : Nat) W (h2 : L.length ≤ 1048576) h3 h4 => WCountT.spec_any (some ⟨g, 0, none⟩) L.length L W h2 h3 h4)
  have hi := hide (fun (g : Nat) W (h2 : L.length ≤ 1048576) h3 h4 h5 => WCountT.impl_any (some ⟨g, 0, none⟩) L.length L W h2 h3 h4 r1 r2 r3 x1 x2 x3 h5)
  generalize Pl.cntT L = V at hs hi
  have HE := hide hE
  have hvar := Mem.var_new w [.slice a L.length cap] 47
  clear hv hok hE
  go_enter Tryd.func7, Tryd.ntmps7
  go_wp2_with fail
  refine (unhide hsz _ b0).mono ?_
  rintro e w1 ⟨⟨r, rfl, hr⟩, b1⟩
  have bw1 := b0.trans (b1.mono b0.size)
  have v1 := Mem.var_call hvar b1
  clear b0 b1 hvar hsz
  rcases hr with rfl | ⟨hr0, hr1, hl2, hz⟩
  · clear v1
    go_wp2
    go_ret
    exact ⟨rfl, bw1⟩
  have hr2 : ¬ r < 0 := by omega
  have HZ := hide hz
  clear hz
  have c0 := v1.2 0 _ rfl
  go_wp2_with fail
  refine (unhide htt _ bw1 hl2).mono ?_
  rintro e w2 ⟨g1, rfl, -, hn1, b2⟩
  have bw2 := bw1.trans (b2.mono bw1.size)
  have v2 := Mem.var_call v1 b2
  have HN1 := hide hn1
  clear bw1 b2 v1 c0 hn1
  have c0 := v2.2 0 _ rfl
  go_wp2_with fail
  refine (unhide hs g1 _ hl2 (unhide HN1) (unhide HZ)).mono ?_
  rintro e w3 ⟨rfl, b3⟩
  have bw3 := bw2.trans (b3.mono bw2.size)
  have v3 := Mem.var_call v2 b3
  clear bw2 b3 v2 c0 HN1 hs
  have c0 := v3.2 0 _ rfl
  go_wp2_with fail
  refine (unhide htt _ bw3 hl2).mono ?_
  rintro e w4 ⟨g2, rfl, -, hn2, b4⟩
  have bw4 := bw3.trans (b4.mono bw3.size)
  have v4 := Mem.var_call v3 b4
  have hx0 := Mem.var_new w4 [.slice (some ⟨g2, 0, none⟩) L.length L.length] 32
  have b5 : Below w4.heap.size w4 (w4.alloc (.cells #[.slice (some ⟨g2, 0, none⟩) L.length L.length] 32)) := (Below.refl _ _).alloc (Nat.le_refl _) _
  have bw5 := bw4.trans (b5.mono bw4.size)
  have v5 := Mem.var_call v4 b5
  have HN2 := hide (Mem.nodes_call hn2 b5)
  have hE5 := hide ((unhide HE).call bw5)
  clear bw3 b4 v3 c0 hn2 bw4 v4 b5
  go_wp2_with fail
  refine (unhide hi g2 _ hl2 (unhide HN2) (unhide HZ) (unhide hE5)).mono ?_
  rintro e w6 ⟨rfl, b6⟩
  have bw6 := bw5.trans (b6.mono bw5.size)
  have v6 := Mem.var_call v5 b6
  have y6 := Mem.var_call hx0 b6
  have HN6 := hide (Mem.nodes_call (unhide HN2) b6)
  clear bw5 b6 v5 hx0 HN2 hE5 hi
  have c0 := v6.2 0 _ rfl
  have d0 := y6.2 0 _ rfl
  generalize w4.heap.size = X at y6 d0 ⊢
  have MK : Hid (∀ W', Below w6.heap.size w6 W' → (Below w6.heap.size w6 W' ∧ W'.cell? ⟨w.heap.size, 0, none⟩ = some (.slice a L.length cap) ∧ W'.cell? ⟨X, 0, none⟩ = some (.slice (some ⟨g2, 0, none⟩) L.length L.length))) := fun W' hb' => ⟨hb', (hb'.cell (p := ⟨w.heap.size, 0, none⟩) v6.1).trans c0, (hb'.cell (p := ⟨X, 0, none⟩) y6.1).trans d0⟩
  clear v6 y6 c0 d0
  go_wp2_with fail
  refine wp_region_held_drew (S := fun W' => Below w6.heap.size w6 W' ∧ W'.cell? ⟨w.heap.size, 0, none⟩ = some (.slice a L.length cap) ∧ W'.cell? ⟨X, 0, none⟩ = some (.slice (some ⟨g2, 0, none⟩) L.length L.length)) (by kernel_rfl) ?_ (fun hHeld => ?_)
  · exact unhide MK _ ((Below.refl _ _).trans ⟨rfl, rfl, rfl, Nat.le_refl _, fun _ _ => rfl⟩)
  refine wpAnyH_take (i := 0) (v := ?_) rfl (by kernel_rfl) (by kernel_rfl) (by kernel_rfl) (fun _ _ _ h => h) (Or.inl ⟨by rfl, ?_⟩) (by assumption) ?_
  rotate_left
  · (intro w hSw; (try dsimp only at hSw); go_simp; (try with_reducible rfl))
  try simp only [Act.put, kB0, kB1, kB2, kB3, kB4, kB5]
  refine wpAnyH_take (i := 1) (v := ?_) rfl (by kernel_rfl) (by kernel_rfl) (by kernel_rfl) (fun _ _ _ h => h) (Or.inl ⟨by rfl, ?_⟩) (by assumption) ?_
  rotate_left
  · (intro w hSw; (try dsimp only at hSw); go_simp; (try with_reducible rfl))
  try simp only [Act.put, kB0, kB1, kB2, kB3, kB4, kB5]
  refine wpAnyH_ready (rs := [2]) (by kernel_rfl) (by simp) ?_
  refine AllReadyH.cons rfl (fun K hK => ?_) AllReadyH.nil
  go_simp
  refine (unhide htt _ (bw6.trans (hHeld.1.mono bw6.size)) hl2).mono ?_
  rintro e wX ⟨g3, rfl, -, hn3, bX⟩
  refine hK.out _ _ ?_ (fun hHeld => ?_)
  · exact unhide MK _ (hHeld.1.trans (bX.mono hHeld.1.size))
  clear hK K
  try simp only [Act.put, kB0, kB1, kB2, kB3, kB4, kB5]
  refine wpAnyH_ready (rs := [3]) (by kernel_rfl) (by simp) ?_
  refine AllReadyH.cons rfl (fun K hK => ?_) AllReadyH.nil
  go_simp
  refine (unhide heq g2 g3 _ hl2 (Mem.nodes_call (unhide HN6) hHeld.1) hn3).mono ?_
  rintro e wX ⟨rfl, bX⟩
  refine hK.out _ _ ?_ (fun hHeld => ?_)
  · exact unhide MK _ (hHeld.1.trans (bX.mono hHeld.1.size))
  clear hK K
  try simp only [Act.put, kB0, kB1, kB2, kB3, kB4, kB5]
  refine wpAnyH_take (i := 4) (v := ?_) rfl (by kernel_rfl) (by kernel_rfl) (by kernel_rfl) (fun _ _ _ h => h) (Or.inl ⟨by rfl, ?_⟩) (by assumption) ?_
  rotate_left
  · (intro w hSw; (try dsimp only at hSw); go_simp; (try with_reducible rfl))
  try simp only [Act.put, kB0, kB1, kB2, kB3, kB4, kB5]
  refine wpAnyH_done (by kernel_rfl) ?_ _
  have bfin := bw6.trans (hHeld.1.mono bw6.size)
  clear hHeld MK
  go_wp2
  go_ret
  exact ⟨rfl, bfin⟩
end fnExactTreeCount
end Go.Proofs.YtkfpfckmjgjanaaDoor

