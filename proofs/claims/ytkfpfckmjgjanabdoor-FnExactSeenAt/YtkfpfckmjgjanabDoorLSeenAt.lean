/- The walk of the law FnExactSeenAt (by genLS.py), over the walks of the two functions and of the laws' own. -/
import Derived.Test.YtkfpfckmjgjanabDoorWSeenF
import Derived.Test.YtkfpfckmjgjanabDoorWSeenS
import Derived.Test.YtkfpfckmjgjanabDoorWEqO
import Derived.Test.YtkfpfckmjgjanabDoorWLawM
import Derived.Test.YtkfpfckmjgjanabDoorOpenLay
namespace Go.Proofs.YtkfpfckmjgjanabDoor
open Go.RowKit
namespace Pl
theorem seen_shape (Ls : List (List Nd)) (p : ByteArray) : ∃ (n : Nd) (c : Int), seenV Ls p = .agg #[.string n.path, .int .i64 n.kind, .string n.data, .int .i64 n.time, .int .i64 n.mark, .int .i64 c] := by
  unfold seenV
  split
  · exact ⟨⟨⟨#[]⟩, 0, ⟨#[]⟩, 0, 0⟩, _, rfl⟩
  split
  · exact ⟨⟨⟨#[]⟩, 0, ⟨#[]⟩, 0, 0⟩, _, rfl⟩
  split
  · exact ⟨_, _, rfl⟩
  · exact ⟨⟨⟨#[]⟩, 0, ⟨#[]⟩, 0, 0⟩, _, rfl⟩
end Pl
namespace fnExactSeenAt
theorem same_ok {D Ts : List Pl.Tr} {P : List Pl.Nd → Prop} (h : D.map (·.L) = Ts.map (·.L)) (hp : ∀ t ∈ Ts, P t.L) : ∀ t ∈ D, P t.L := fun t ht => by
  have : t.L ∈ Ts.map (·.L) := by rw [← h]; exact List.mem_map.2 ⟨t, ht, rfl⟩
  obtain ⟨u, hu, e⟩ := List.mem_map.1 this
  rw [← e]; exact hp u hu
set_option linter.unusedSimpArgs false in
set_option maxRecDepth 100000 in
set_option maxHeartbeats 2000000 in
theorem walk (a : Option Addr) (Ts : List Pl.Tr) (cap : Nat) (p : ByteArray) (w : World) (ok : OpenL.OkL w a Ts) (_okp : p.size ≤ maxLen) (r1 r2 r3 : TypeId) (x1 x2 x3 : Value) (hE : WNodesI.Errs w r1 r2 r3 x1 x2 x3) :
    Calls Tryd.prog 5 #[.agg #[.slice a Ts.length cap], .string p] w fun e w' => e = .returned (.bool true) ∧ Below w.heap.size w w' := by
  obtain ⟨hl, hv, hok⟩ := ok
  have b0 : Below w.heap.size w (w.alloc (.cells #[.slice a Ts.length cap] 24)) := (Below.refl _ _).alloc (Nat.le_refl _) _
  have hsz := hide (fun W (b : Below w.heap.size w W) => WLaw.szLayers_any a cap Ts W hl (Mem.trees_call hv b) (fun t ht => ⟨(hok t ht).1, fun n hn => ⟨((hok t ht).2 n hn).1, ((hok t ht).2 n hn).2.1⟩⟩))
  have htt := hide (fun W (b : Below w.heap.size w W) (h2 : Ts.length ≤ 1048576) h3 => WLaw.toLayers_any a cap Ts W h2 (Mem.trees_call hv b) h3)
  have heq := hide (fun (g g' : Nat) (D E : List Pl.Tr) W (h2 : Ts.length ≤ 1048576) (hd : D.length = Ts.length) (hD : D.map (·.L) = Ts.map (·.L)) (hE : E.map (·.L) = Ts.map (·.L)) h3 h4 (h5 : ∀ t ∈ Ts, t.L.length ≤ 1048576) => by
    have := WLaw.eqLayers_any (some ⟨g, 0, none⟩) (some ⟨g', 0, none⟩) D.length D.length D E W (by omega) (hE.trans hD.symm) h3 h4 (same_ok (P := fun L => L.length ≤ 1048576) hD h5)
    rw [hd] at this; exact this)
  have hs := hide (fun (g : Nat) (D : List Pl.Tr) W (h2 : Ts.length ≤ 1048576) (hd : D.length = Ts.length) (hD : D.map (·.L) = Ts.map (·.L)) h3 (h4 : ∀ t ∈ Ts, t.L.length ≤ 1048576 ∧ ∀ n ∈ t.L, n.path.size ≤ 1048576 ∧ n.data.size ≤ 1048576) (h6 : p.size ≤ 1048576) => by
    have := WPick.seenS_any (some ⟨g, 0, none⟩) D.length D p W (by omega) h3 (same_ok (P := fun L => L.length ≤ 1048576 ∧ ∀ n ∈ L, n.path.size ≤ 1048576 ∧ n.data.size ≤ 1048576) hD h4) h6
    rw [hd, hD] at this; exact this)
  have hi := hide (fun (g : Nat) (D : List Pl.Tr) W (h2 : Ts.length ≤ 1048576) (hd : D.length = Ts.length) (hD : D.map (·.L) = Ts.map (·.L)) h3 (h4 : ∀ t ∈ Ts, t.L.length ≤ 1048576 ∧ ∀ n ∈ t.L, n.path.size ≤ 1048576 ∧ n.data.size ≤ 1048576) (h6 : p.size ≤ 1048576) h5 => by
    have := WSeen.impl_any (some ⟨g, 0, none⟩) D.length D p W (by omega) h3 (same_ok (P := fun L => L.length ≤ 1048576 ∧ ∀ n ∈ L, n.path.size ≤ 1048576 ∧ n.data.size ≤ 1048576) hD h4) h6 r1 r2 r3 x1 x2 x3 h5
    rw [hd, hD] at this; exact this)
  obtain ⟨n, c, hV⟩ := Pl.seen_shape (Ts.map (·.L)) p
  rw [hV] at hs hi
  have heo := hide (fun W => WGetT.eqO_any n c W)
  clear hV
  have HE := hide hE
  have hvar := Mem.var_new w [.slice a Ts.length cap] 24
  clear hv hok hE
  by_cases hz : 1048576 < p.size
  · have t0 : (1048576 : Int) < (p.size : Int) := by omega
    go_enter Tryd.func5, Tryd.ntmps5
    go_wp2
    go_ret
    exact ⟨rfl, b0⟩
  have t0 : ¬ (1048576 : Int) < (p.size : Int) := by omega
  have hp : p.size ≤ 1048576 := by omega
  clear hz
  have HP := hide hp
  clear hp
  go_enter Tryd.func5, Tryd.ntmps5
  go_wp2_with fail
  refine (unhide hsz _ b0).mono ?_
  rintro e w1 ⟨⟨r, rfl, hr⟩, b1⟩
  have bw1 := b0.trans (b1.mono b0.size)
  have v1 := Mem.var_call hvar b1
  clear b0 b1 hvar hsz
  rcases hr with rfl | ⟨hr0, hr1, hl2, hz⟩
  · clear v1
    go_wp2
    go_ret
    exact ⟨rfl, bw1⟩
  have hr2 : ¬ r < 0 := by omega
  have HZ := hide hz
  have HZ1 := hide (fun t ht => (hz t ht).1)
  clear hz
  have c0 := v1.2 0 _ rfl
  go_wp2_with fail
  refine (unhide htt _ bw1 hl2 (unhide HZ1)).mono ?_
  rintro e w2 ⟨g1, D1, rfl, -, hd1, hm1, hn1, b2⟩
  have bw2 := bw1.trans (b2.mono bw1.size)
  have v2 := Mem.var_call v1 b2
  have HN1 := hide hn1
  have HM1 := hide hm1
  clear bw1 b2 v1 c0 hn1 hm1
  have c0 := v2.2 0 _ rfl
  go_wp2_with fail
  refine (unhide hs g1 D1 _ hl2 hd1 (unhide HM1) (unhide HN1) (unhide HZ) (unhide HP)).mono ?_
  rintro e w3 ⟨rfl, b3⟩
  have bw3 := bw2.trans (b3.mono bw2.size)
  have v3 := Mem.var_call v2 b3
  clear bw2 b3 v2 c0 HN1 HM1 hd1 hs
  have hy0 := Mem.var_new w3 [.string n.path, .int .i64 n.kind, .string n.data, .int .i64 n.time, .int .i64 n.mark, .int .i64 c] 52
  have b4 : Below w3.heap.size w3 (w3.alloc (.cells #[.string n.path, .int .i64 n.kind, .string n.data, .int .i64 n.time, .int .i64 n.mark, .int .i64 c] 52)) := (Below.refl _ _).alloc (Nat.le_refl _) _
  have bw4 := bw3.trans (b4.mono bw3.size)
  have v4 := Mem.var_call v3 b4
  clear bw3 v3 b4
  have c0 := v4.2 0 _ rfl
  go_wp2_with fail
  refine (unhide htt _ bw4 hl2 (unhide HZ1)).mono ?_
  rintro e w5 ⟨g2, D2, rfl, -, hd2, hm2, hn2, b5⟩
  have bw5 := bw4.trans (b5.mono bw4.size)
  have v5 := Mem.var_call v4 b5
  have y5 := Mem.var_call hy0 b5
  clear bw4 v4 b5 hy0 c0
  generalize w3.heap.size = Y at y5 ⊢
  have hx0 := Mem.var_new w5 [.slice (some ⟨g2, 0, none⟩) Ts.length Ts.length] 29
  have b6 : Below w5.heap.size w5 (w5.alloc (.cells #[.slice (some ⟨g2, 0, none⟩) Ts.length Ts.length] 29)) := (Below.refl _ _).alloc (Nat.le_refl _) _
  have bw6 := bw5.trans (b6.mono bw5.size)
  have v6 := Mem.var_call v5 b6
  have y6 := Mem.var_call y5 b6
  have HN2 := hide (Mem.trees_call hn2 b6)
  have HM2 := hide hm2
  have hE6 := hide ((unhide HE).call bw6)
  clear bw5 v5 y5 b6 hn2 hm2
  go_wp2_with fail
  refine (unhide hi g2 D2 _ hl2 hd2 (unhide HM2) (unhide HN2) (unhide HZ) (unhide HP) (unhide hE6)).mono ?_
  rintro e w7 ⟨rfl, b7⟩
  have bw7 := bw6.trans (b7.mono bw6.size)
  have v7 := Mem.var_call v6 b7
  have y7 := Mem.var_call y6 b7
  have x7 := Mem.var_call hx0 b7
  have HN7 := hide (Mem.trees_call (unhide HN2) b7)
  clear bw6 v6 y6 hx0 b7 HN2 hE6 hi
  generalize w5.heap.size = X at x7 ⊢
  have b8 : Below w7.heap.size w7 (w7.alloc (.cells #[.string n.path, .int .i64 n.kind, .string n.data, .int .i64 n.time, .int .i64 n.mark, .int .i64 c] 52)) := (Below.refl _ _).alloc (Nat.le_refl _) _
  have bw8 := bw7.trans (b8.mono bw7.size)
  have v8 := Mem.var_call v7 b8
  have x8 := Mem.var_call x7 b8
  have y8 := Mem.var_call y7 b8
  have HN8 := hide (Mem.trees_call (unhide HN7) b8)
  clear bw7 v7 x7 y7 HN7 b8
  have d0 := y8.2 0 _ rfl
  have d1 := y8.2 1 _ rfl
  have d2 := y8.2 2 _ rfl
  have d3 := y8.2 3 _ rfl
  have d4 := y8.2 4 _ rfl
  have d5 := y8.2 5 _ rfl
  go_wp2_with fail
  refine (unhide heo _).mono ?_
  rintro e w6 ⟨rfl, b9⟩
  have bw6 := bw8.trans (b9.mono bw8.size)
  have v6 := Mem.var_call v8 b9
  have y6 := Mem.var_call x8 b9
  have HN6 := hide (Mem.trees_call (unhide HN8) b9)
  clear bw8 v8 x8 y8 HN8 b9 heo d0 d1 d2 d3 d4 d5
  have c0 := v6.2 0 _ rfl
  have d0 := y6.2 0 _ rfl
  have MK : Hid (∀ W', Below w6.heap.size w6 W' → (Below w6.heap.size w6 W' ∧ W'.cell? ⟨w.heap.size, 0, none⟩ = some (.slice a Ts.length cap) ∧ W'.cell? ⟨X, 0, none⟩ = some (.slice (some ⟨g2, 0, none⟩) Ts.length Ts.length))) := fun W' hb' => ⟨hb', (hb'.cell (p := ⟨w.heap.size, 0, none⟩) v6.1).trans c0, (hb'.cell (p := ⟨X, 0, none⟩) y6.1).trans d0⟩
  clear v6 y6 c0 d0
  go_wp2_with fail
  refine wp_region_held_drew (S := fun W' => Below w6.heap.size w6 W' ∧ W'.cell? ⟨w.heap.size, 0, none⟩ = some (.slice a Ts.length cap) ∧ W'.cell? ⟨X, 0, none⟩ = some (.slice (some ⟨g2, 0, none⟩) Ts.length Ts.length)) (by kernel_rfl) ?_ (fun hHeld => ?_)
  · exact unhide MK _ ((Below.refl _ _).trans ⟨rfl, rfl, rfl, Nat.le_refl _, fun _ _ => rfl⟩)
  refine wpAnyH_take (i := 0) (v := ?_) rfl (by kernel_rfl) (by kernel_rfl) (by kernel_rfl) (fun _ _ _ h => h) (Or.inl ⟨by rfl, ?_⟩) (by assumption) ?_
  rotate_left
  · (intro w hSw; (try dsimp only at hSw); go_simp; (try with_reducible rfl))
  try simp only [Act.put, kB0, kB1, kB2, kB3, kB4, kB5]
  refine wpAnyH_take (i := 1) (v := ?_) rfl (by kernel_rfl) (by kernel_rfl) (by kernel_rfl) (fun _ _ _ h => h) (Or.inl ⟨by rfl, ?_⟩) (by assumption) ?_
  rotate_left
  · (intro w hSw; (try dsimp only at hSw); go_simp; (try with_reducible rfl))
  try simp only [Act.put, kB0, kB1, kB2, kB3, kB4, kB5]
  refine wpAnyH_ready (rs := [2]) (by kernel_rfl) (by simp) ?_
  refine AllReadyH.cons rfl (fun K hK => ?_) AllReadyH.nil
  go_simp
  refine (unhide htt _ (bw6.trans (hHeld.1.mono bw6.size)) hl2 (unhide HZ1)).mono ?_
  rintro e wX ⟨g3, D3, rfl, -, hd3, hm3, hn3, bX⟩
  refine hK.out _ _ ?_ (fun hHeld => ?_)
  · exact unhide MK _ (hHeld.1.trans (bX.mono hHeld.1.size))
  clear hK K
  try simp only [Act.put, kB0, kB1, kB2, kB3, kB4, kB5]
  refine wpAnyH_ready (rs := [3]) (by kernel_rfl) (by simp) ?_
  refine AllReadyH.cons rfl (fun K hK => ?_) AllReadyH.nil
  go_simp
  refine (unhide heq g2 g3 D2 D3 _ hl2 hd2 (unhide HM2) hm3 (Mem.trees_call (unhide HN6) hHeld.1) hn3 (unhide HZ1)).mono ?_
  rintro e wX ⟨rfl, bX⟩
  refine hK.out _ _ ?_ (fun hHeld => ?_)
  · exact unhide MK _ (hHeld.1.trans (bX.mono hHeld.1.size))
  clear hK K
  try simp only [Act.put, kB0, kB1, kB2, kB3, kB4, kB5]
  refine wpAnyH_take (i := 4) (v := ?_) rfl (by kernel_rfl) (by kernel_rfl) (by kernel_rfl) (fun _ _ _ h => h) (Or.inl ⟨by rfl, ?_⟩) (by assumption) ?_
  rotate_left
  · (intro w hSw; (try dsimp only at hSw); go_simp; (try with_reducible rfl))
  try simp only [Act.put, kB0, kB1, kB2, kB3, kB4, kB5]
  refine wpAnyH_done (by kernel_rfl) ?_ _
  have bfin := bw6.trans (hHeld.1.mono bw6.size)
  clear hHeld MK
  go_wp2
  go_ret
  exact ⟨rfl, bfin⟩
end fnExactSeenAt
end Go.Proofs.YtkfpfckmjgjanabDoor

