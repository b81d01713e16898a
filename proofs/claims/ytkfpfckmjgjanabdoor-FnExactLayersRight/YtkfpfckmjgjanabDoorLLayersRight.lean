/- The walk of the law FnExactLayersRight, over the walks of the two functions and of the laws' own. -/
import Derived.Test.YtkfpfckmjgjanabDoorWLayI
import Derived.Test.YtkfpfckmjgjanabDoorWLawM
import Derived.Test.YtkfpfckmjgjanabDoorOpenLay
namespace Go.Proofs.YtkfpfckmjgjanabDoor
open Go.RowKit
namespace fnExactLayersRight
theorem same_ok {D Ts : List Pl.Tr} {P : List Pl.Nd → Prop} (h : D.map (·.L) = Ts.map (·.L)) (hp : ∀ t ∈ Ts, P t.L) : ∀ t ∈ D, P t.L := fun t ht => by
  have : t.L ∈ Ts.map (·.L) := by rw [← h]; exact List.mem_map.2 ⟨t, ht, rfl⟩
  obtain ⟨u, hu, e⟩ := List.mem_map.1 this
  rw [← e]; exact hp u hu
set_option linter.unusedSimpArgs false in
set_option maxRecDepth 100000 in
set_option maxHeartbeats 1000000 in
theorem walk (a : Option Addr) (Ts : List Pl.Tr) (cap : Nat) (w : World) (ok : OpenL.OkL w a Ts) (r1 r2 r3 : TypeId) (x1 x2 x3 : Value) (hE : WNodesI.Errs w r1 r2 r3 x1 x2 x3) :
    Calls Tryd.prog 3 #[.agg #[.slice a Ts.length cap]] w fun e w' => e = .returned (.bool true) ∧ Below w.heap.size w w' := by
  obtain ⟨hl, hv, hok⟩ := ok
  have b0 : Below w.heap.size w (w.alloc (.cells #[.slice a Ts.length cap] 24)) := (Below.refl _ _).alloc (Nat.le_refl _) _
  have hsz := hide (fun W (b : Below w.heap.size w W) => WLaw.szLayers_any a cap Ts W hl (Mem.trees_call hv b) (fun t ht => ⟨(hok t ht).1, fun n hn => ⟨((hok t ht).2 n hn).1, ((hok t ht).2 n hn).2.1⟩⟩))
  have htt := hide (fun W (b : Below w.heap.size w W) (h2 : Ts.length ≤ 1048576) h3 => WLaw.toLayers_any a cap Ts W h2 (Mem.trees_call hv b) h3)
  have heq := hide (fun (g g' : Nat) (D E : List Pl.Tr) W (h2 : Ts.length ≤ 1048576) (hd : D.length = Ts.length) (hD : D.map (·.L) = Ts.map (·.L)) (hE : E.map (·.L) = Ts.map (·.L)) h3 h4 (h5 : ∀ t ∈ Ts, t.L.length ≤ 1048576) => by
    have := WLaw.eqLayers_any (some ⟨g, 0, none⟩) (some ⟨g', 0, none⟩) D.length D.length D E W (by omega) (hE.trans hD.symm) h3 h4 (same_ok (P := fun L => L.length ≤ 1048576) hD h5)
    rw [hd] at this; exact this)
  have hs := hide (fun (g : Nat) (D : List Pl.Tr) W (h2 : Ts.length ≤ 1048576) (hd : D.length = Ts.length) (hD : D.map (·.L) = Ts.map (·.L)) h3 (h4 : ∀ t ∈ Ts, t.L.length ≤ 1048576 ∧ ∀ n ∈ t.L, n.path.size ≤ 1048576 ∧ n.data.size ≤ 1048576) => by
    have := WLayS.any (some ⟨g, 0, none⟩) D.length D W (by omega) h3 (same_ok (P := fun L => L.length ≤ 1048576 ∧ ∀ n ∈ L, n.path.size ≤ 1048576 ∧ n.data.size ≤ 1048576) hD h4)
    rw [hd, hD] at this; exact this)
  have hi := hide (fun (g : Nat) (D : List Pl.Tr) W (h2 : Ts.length ≤ 1048576) (hd : D.length = Ts.length) (hD : D.map (·.L) = Ts.map (·.L)) h3 (h4 : ∀ t ∈ Ts, t.L.length ≤ 1048576 ∧ ∀ n ∈ t.L, n.path.size ≤ 1048576 ∧ n.data.size ≤ 1048576) h5 => by
    have := WOverI.right_any (some ⟨g, 0, none⟩) D.length D W (by omega) h3 (same_ok (P := fun L => L.length ≤ 1048576 ∧ ∀ n ∈ L, n.path.size ≤ 1048576 ∧ n.data.size ≤ 1048576) hD h4) r1 r2 r3 x1 x2 x3 h5
    rw [hd, hD] at this; exact this)
  generalize Pl.layB (Ts.map (·.L)) = V at hs hi
  have HE := hide hE
  have hvar := Mem.var_new w [.slice a Ts.length cap] 24
  clear hv hok hE
  go_enter Tryd.func3, Tryd.ntmps3
  go_wp2_with fail
  refine (unhide hsz _ b0).mono ?_
  rintro e w1 ⟨⟨r, rfl, hr⟩, b1⟩
  have bw1 := b0.trans (b1.mono b0.size)
  have v1 := Mem.var_call hvar b1
  clear b0 b1 hvar hsz
  rcases hr with rfl | ⟨hr0, hr1, hl2, hz⟩
  · clear v1
    go_wp2
    go_ret
    exact ⟨rfl, bw1⟩
  have hr2 : ¬ r < 0 := by omega
  have HZ := hide hz
  have HZ1 := hide (fun t ht => (hz t ht).1)
  clear hz
  have c0 := v1.2 0 _ rfl
  go_wp2_with fail
  refine (unhide htt _ bw1 hl2 (unhide HZ1)).mono ?_
  rintro e w2 ⟨g1, D1, rfl, -, hd1, hm1, hn1, b2⟩
  have bw2 := bw1.trans (b2.mono bw1.size)
  have v2 := Mem.var_call v1 b2
  have HN1 := hide hn1
  have HM1 := hide hm1
  clear bw1 b2 v1 c0 hn1 hm1
  have c0 := v2.2 0 _ rfl
  go_wp2_with fail
  refine (unhide hs g1 D1 _ hl2 hd1 (unhide HM1) (unhide HN1) (unhide HZ)).mono ?_
  rintro e w3 ⟨rfl, b3⟩
  have bw3 := bw2.trans (b3.mono bw2.size)
  have v3 := Mem.var_call v2 b3
  clear bw2 b3 v2 c0 HN1 HM1 hd1 hs
  have c0 := v3.2 0 _ rfl
  go_wp2_with fail
  refine (unhide htt _ bw3 hl2 (unhide HZ1)).mono ?_
  rintro e w4 ⟨g2, D2, rfl, -, hd2, hm2, hn2, b4⟩
  have bw4 := bw3.trans (b4.mono bw3.size)
  have v4 := Mem.var_call v3 b4
  have hx0 := Mem.var_new w4 [.slice (some ⟨g2, 0, none⟩) Ts.length Ts.length] 29
  have b5 : Below w4.heap.size w4 (w4.alloc (.cells #[.slice (some ⟨g2, 0, none⟩) Ts.length Ts.length] 29)) := (Below.refl _ _).alloc (Nat.le_refl _) _
  have bw5 := bw4.trans (b5.mono bw4.size)
  have v5 := Mem.var_call v4 b5
  have HN2 := hide (Mem.trees_call hn2 b5)
  have HM2 := hide hm2
  have hE5 := hide ((unhide HE).call bw5)
  clear bw3 b4 v3 c0 hn2 bw4 v4 b5 hm2
  go_wp2_with fail
  refine (unhide hi g2 D2 _ hl2 hd2 (unhide HM2) (unhide HN2) (unhide HZ) (unhide hE5)).mono ?_
  rintro e w6 ⟨rfl, b6⟩
  have bw6 := bw5.trans (b6.mono bw5.size)
  have v6 := Mem.var_call v5 b6
  have y6 := Mem.var_call hx0 b6
  have HN6 := hide (Mem.trees_call (unhide HN2) b6)
  clear bw5 b6 v5 hx0 HN2 hE5 hi
  have c0 := v6.2 0 _ rfl
  have d0 := y6.2 0 _ rfl
  generalize w4.heap.size = X at y6 d0 ⊢
  have MK : Hid (∀ W', Below w6.heap.size w6 W' → (Below w6.heap.size w6 W' ∧ W'.cell? ⟨w.heap.size, 0, none⟩ = some (.slice a Ts.length cap) ∧ W'.cell? ⟨X, 0, none⟩ = some (.slice (some ⟨g2, 0, none⟩) Ts.length Ts.length))) := fun W' hb' => ⟨hb', (hb'.cell (p := ⟨w.heap.size, 0, none⟩) v6.1).trans c0, (hb'.cell (p := ⟨X, 0, none⟩) y6.1).trans d0⟩
  clear v6 y6 c0 d0
  go_wp2_with fail
  refine wp_region_held_drew (S := fun W' => Below w6.heap.size w6 W' ∧ W'.cell? ⟨w.heap.size, 0, none⟩ = some (.slice a Ts.length cap) ∧ W'.cell? ⟨X, 0, none⟩ = some (.slice (some ⟨g2, 0, none⟩) Ts.length Ts.length)) (by kernel_rfl) ?_ (fun hHeld => ?_)
  · exact unhide MK _ ((Below.refl _ _).trans ⟨rfl, rfl, rfl, Nat.le_refl _, fun _ _ => rfl⟩)
  refine wpAnyH_take (i := 0) (v := ?_) rfl (by kernel_rfl) (by kernel_rfl) (by kernel_rfl) (fun _ _ _ h => h) (Or.inl ⟨by rfl, ?_⟩) (by assumption) ?_
  rotate_left
  · (intro w hSw; (try dsimp only at hSw); go_simp; (try with_reducible rfl))
  try simp only [Act.put, kB0, kB1, kB2, kB3, kB4, kB5]
  refine wpAnyH_take (i := 1) (v := ?_) rfl (by kernel_rfl) (by kernel_rfl) (by kernel_rfl) (fun _ _ _ h => h) (Or.inl ⟨by rfl, ?_⟩) (by assumption) ?_
  rotate_left
  · (intro w hSw; (try dsimp only at hSw); go_simp; (try with_reducible rfl))
  try simp only [Act.put, kB0, kB1, kB2, kB3, kB4, kB5]
  refine wpAnyH_ready (rs := [2]) (by kernel_rfl) (by simp) ?_
  refine AllReadyH.cons rfl (fun K hK => ?_) AllReadyH.nil
  go_simp
  refine (unhide htt _ (bw6.trans (hHeld.1.mono bw6.size)) hl2 (unhide HZ1)).mono ?_
  rintro e wX ⟨g3, D3, rfl, -, hd3, hm3, hn3, bX⟩
  refine hK.out _ _ ?_ (fun hHeld => ?_)
  · exact unhide MK _ (hHeld.1.trans (bX.mono hHeld.1.size))
  clear hK K
  try simp only [Act.put, kB0, kB1, kB2, kB3, kB4, kB5]
  refine wpAnyH_ready (rs := [3]) (by kernel_rfl) (by simp) ?_
  refine AllReadyH.cons rfl (fun K hK => ?_) AllReadyH.nil
  go_simp
  refine (unhide heq g2 g3 D2 D3 _ hl2 hd2 (unhide HM2) hm3 (Mem.trees_call (unhide HN6) hHeld.1) hn3 (unhide HZ1)).mono ?_
  rintro e wX ⟨rfl, bX⟩
  refine hK.out _ _ ?_ (fun hHeld => ?_)
  · exact unhide MK _ (hHeld.1.trans (bX.mono hHeld.1.size))
  clear hK K
  try simp only [Act.put, kB0, kB1, kB2, kB3, kB4, kB5]
  refine wpAnyH_take (i := 4) (v := ?_) rfl (by kernel_rfl) (by kernel_rfl) (by kernel_rfl) (fun _ _ _ h => h) (Or.inl ⟨by rfl, ?_⟩) (by assumption) ?_
  rotate_left
  · (intro w hSw; (try dsimp only at hSw); go_simp; (try with_reducible rfl))
  try simp only [Act.put, kB0, kB1, kB2, kB3, kB4, kB5]
  refine wpAnyH_done (by kernel_rfl) ?_ _
  have bfin := bw6.trans (hHeld.1.mono bw6.size)
  clear hHeld MK
  go_wp2
  go_ret
  exact ⟨rfl, bfin⟩
end fnExactLayersRight
end Go.Proofs.YtkfpfckmjgjanabDoor

