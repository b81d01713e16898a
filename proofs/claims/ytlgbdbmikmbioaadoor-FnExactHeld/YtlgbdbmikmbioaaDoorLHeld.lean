/- The walk of the law FnExactHeld (by genLSp.py). -/
import Derived.Test.YtlgbdbmikmbioaaDoorPlainSpT
import Derived.Test.YtlgbdbmikmbioaaDoorG34
import Derived.Test.YtlgbdbmikmbioaaDoorWSpH
import Derived.Deep.RegionHeld3
namespace Go.Proofs.YtlgbdbmikmbioaaDoor
open Go.RowKit
namespace fnExactHeld
set_option linter.unusedSimpArgs false in
set_option maxRecDepth 100000 in
set_option maxHeartbeats 2000000 in
theorem walk (s : Pl.Sp) (d : Int) (w : World) (ok : OpenSp.OkP w s) (r0 r1 r2 r3 : TypeId) (z0 z1 z2 z3 : Value) (hE : WNestI.Errs4 w r0 r1 r2 r3 z0 z1 z2 z3) :
    Calls Tryd.prog 4 #[.agg s.cs, .int .i64 d] w fun e w' => e = .returned (.bool true) ∧ Below w.heap.size w w' := by
  obtain ⟨hv, hok, hnum⟩ := ok
  have hsz := hide (fun W (b : Below w.heap.size w W) => WLawSp.szSpace_any s W (hv.call b) hok)
  have htt := hide (fun W (b : Below w.heap.size w W) (hk : WLawSp.OkS s 1048576) => WLawSp.toSpace_any s W (hv.call b) hk)
  have hs := hide (fun (s1 : Pl.Sp) (v W : World) (T : WLawSp.SpT v W s s1) (hk : WLawSp.OkS s 1048576) => by
    have := WSp.heldS_any d s1 W (T.ok hk) T.sp
    rw [T.nr, T.m, T.h, T.x] at this
    exact this)
  have hi := hide (fun (s1 : Pl.Sp) (v W : World) (T : WLawSp.SpT v W s s1) (hk : WLawSp.OkS s 1048576) W' (b : Below W.heap.size W W') (hE' : WNestI.Errs4 W' r0 r1 r2 r3 z0 z1 z2 z3) => by
    have := WSpI.heldI_any d s1 W' (T.ok hk) (T.okN hnum) T.okA (T.sp.call b) r0 r1 r2 r3 z0 z1 z2 z3 hE'
    rw [Pl.space_same, T.nr, T.m, T.h, T.x] at this
    exact this)
  have heq := hide (fun (s1 s2 : Pl.Sp) (v1 W1 v2 W2 : World) (T1 : WLawSp.SpT v1 W1 s s1) (T2 : WLawSp.SpT v2 W2 s s2) (hk : WLawSp.OkS s 1048576) W (b1 : Below W1.heap.size W1 W) (b2 : Below W2.heap.size W2 W) => WLawSp.eqSpace_any s1 s2 W (T1.ok hk) (T2.n.trans T1.n.symm) (T2.m.trans T1.m.symm) (T2.h.trans T1.h.symm) (T2.x.trans T1.x.symm) (T1.sp.call b1) (T2.sp.call b2))
  generalize WSpI.heldV (Pl.spaceB s.next (s.N.map WSp.nr) s.M s.H Pl.wayB) (Pl.held s.M s.H d) = V at hs hi
  have HE := hide hE
  clear hv hok hE
  obtain ⟨ia, ic, N, ma, mc, M, ha, hc, H, next⟩ := s
  unfold Pl.Sp.cs at hsz htt ⊢
  simp only at hsz htt ⊢
  have b0 := (Below.refl w.heap.size w).alloc (o := .cells #[.slice ia N.length ic, .slice ma M.length mc, .slice ha H.length hc, .int .i64 next] 26) (Nat.le_refl _)
  have V0 := hide (Mem.Blk.new w #[.slice ia N.length ic, .slice ma M.length mc, .slice ha H.length hc, .int .i64 next] 26)
  have a0 := (unhide V0).cell 0
  have a1 := (unhide V0).cell 1
  have a2 := (unhide V0).cell 2
  have a3 := (unhide V0).cell 3
  simp only [kA0, kA1, kA2] at a0 a1 a2 a3
  go_enter Tryd.func4, Tryd.ntmps4
  go_wp2_with fail
  generalize w.alloc (.cells #[.slice ia N.length ic, .slice ma M.length mc, .slice ha H.length hc, .int .i64 next] 26) = wA at b0 V0 a0 a1 a2 a3 ⊢
  refine (unhide hsz _ b0).mono ?_
  rintro e w1 ⟨⟨r, rfl, hr⟩, bX⟩
  have b1 := b0.trans (bX.mono b0.size)
  have V1 := hide ((unhide V0).call bX)
  clear b0 V0 bX hsz a0 a1 a2 a3
  rcases hr with rfl | ⟨hr0, hk⟩
  · go_wp2
    go_ret
    exact ⟨rfl, b1⟩
  have hr2 : ¬ r < 0 := by omega
  have a0 := (unhide V1).cell 0
  have a1 := (unhide V1).cell 1
  have a2 := (unhide V1).cell 2
  have a3 := (unhide V1).cell 3
  simp only [kA0, kA1, kA2] at a0 a1 a2 a3
  go_wp2_with fail
  refine (unhide htt _ b1 hk).mono ?_
  rintro e w2 ⟨⟨s1, rfl, T1⟩, bX⟩
  have b2 := b1.trans (bX.mono b1.size)
  have V2 := hide ((unhide V1).call bX)
  clear b1 V1 bX a0 a1 a2 a3
  have HC := hide (unhide hs s1 _ _ T1 hk)
  clear T1 hs
  obtain ⟨i1, c1, N1, m1, mc1, M1, h1, hc1, H1, x1⟩ := s1
  unfold Pl.Sp.cs at HC
  simp only at HC ⊢
  go_wp2_with fail
  refine (unhide HC).mono ?_
  rintro e w3 ⟨rfl, bX⟩
  have b3 := b2.trans (bX.mono b2.size)
  have V3 := hide ((unhide V2).call bX)
  clear b2 V2 bX HC
  have a0 := (unhide V3).cell 0
  have a1 := (unhide V3).cell 1
  have a2 := (unhide V3).cell 2
  have a3 := (unhide V3).cell 3
  simp only [kA0, kA1, kA2] at a0 a1 a2 a3
  go_wp2_with fail
  refine (unhide htt _ b3 hk).mono ?_
  rintro e w4 ⟨⟨s2, rfl, T2⟩, bX⟩
  have b4 := b3.trans (bX.mono b3.size)
  have V4 := hide ((unhide V3).call bX)
  clear b3 V3 bX a0 a1 a2 a3
  obtain ⟨i2, c2, N2, m2, mc2, M2, h2, hc2, H2, x2⟩ := s2
  simp only
  have bA : Below w4.heap.size w4 (w4.alloc (.cells #[.slice i2 N2.length c2, .slice m2 M2.length mc2, .slice h2 H2.length hc2, .int .i64 x2] 33)) := (Below.refl _ _).alloc (Nat.le_refl _) _
  have b5 := b4.alloc (o := .cells #[.slice i2 N2.length c2, .slice m2 M2.length mc2, .slice h2 H2.length hc2, .int .i64 x2] 33) b4.size
  have V5 := hide ((unhide V4).call bA)
  have X5 := hide (Mem.Blk.new w4 #[.slice i2 N2.length c2, .slice m2 M2.length mc2, .slice h2 H2.length hc2, .int .i64 x2] 33)
  have HC := hide (unhide hi ⟨i2, c2, N2, m2, mc2, M2, h2, hc2, H2, x2⟩ _ _ T2 hk _ bA ((unhide HE).call b5))
  unfold Pl.Sp.cs at HC
  simp only at HC
  have HT2 := hide T2
  clear T2 hi V4 b4
  have y0 := (unhide X5).cell 0
  have y1 := (unhide X5).cell 1
  have y2 := (unhide X5).cell 2
  have y3 := (unhide X5).cell 3
  simp only [kA0, kA1, kA2] at y0 y1 y2 y3
  go_wp2_with fail
  generalize w4.alloc (.cells #[.slice i2 N2.length c2, .slice m2 M2.length mc2, .slice h2 H2.length hc2, .int .i64 x2] 33) = w5 at bA b5 V5 X5 HC y0 y1 y2 y3 ⊢
  generalize hXe : w4.heap.size = X at X5 y0 y1 y2 y3 ⊢
  clear hXe
  refine (unhide HC).mono ?_
  rintro e wR ⟨rfl, bX⟩
  have bR := b5.trans (bX.mono b5.size)
  have bT : Below w4.heap.size w4 wR := bA.trans (bX.mono bA.size)
  have VR := hide ((unhide V5).call bX)
  have XR := hide ((unhide X5).call bX)
  clear b5 V5 X5 bA bX HC y0 y1 y2 y3
  have MK : Hid (∀ W', Below w.heap.size w W' → Mem.Blk W' w.heap.size #[.slice ia N.length ic, .slice ma M.length mc, .slice ha H.length hc, .int .i64 next] 26 → Mem.Blk W' X #[.slice i2 N2.length c2, .slice m2 M2.length mc2, .slice h2 H2.length hc2, .int .i64 x2] 33 → (fun W' => Below w.heap.size w W' ∧ W'.cell? ⟨w.heap.size, 0, none⟩ = some (Value.slice ia N.length ic) ∧ W'.cell? ⟨w.heap.size, 1, none⟩ = some (Value.slice ma M.length mc) ∧ W'.cell? ⟨w.heap.size, 2, none⟩ = some (Value.slice ha H.length hc) ∧ W'.cell? ⟨w.heap.size, 3, none⟩ = some (Value.int .i64 next) ∧ W'.cell? ⟨X, 0, none⟩ = some (Value.slice i2 N2.length c2) ∧ W'.cell? ⟨X, 1, none⟩ = some (Value.slice m2 M2.length mc2) ∧ W'.cell? ⟨X, 2, none⟩ = some (Value.slice h2 H2.length hc2) ∧ W'.cell? ⟨X, 3, none⟩ = some (Value.int .i64 x2)) W') := fun W' h1 h2 h3 => ⟨h1, h2.cell 0, h2.cell 1, h2.cell 2, h2.cell 3, h3.cell 0, h3.cell 1, h3.cell 2, h3.cell 3⟩
  go_upto_region 10 with fail
  refine wp_region_held_drew (S := fun W' => Below w.heap.size w W' ∧ W'.cell? ⟨w.heap.size, 0, none⟩ = some (Value.slice ia N.length ic) ∧ W'.cell? ⟨w.heap.size, 1, none⟩ = some (Value.slice ma M.length mc) ∧ W'.cell? ⟨w.heap.size, 2, none⟩ = some (Value.slice ha H.length hc) ∧ W'.cell? ⟨w.heap.size, 3, none⟩ = some (Value.int .i64 next) ∧ W'.cell? ⟨X, 0, none⟩ = some (Value.slice i2 N2.length c2) ∧ W'.cell? ⟨X, 1, none⟩ = some (Value.slice m2 M2.length mc2) ∧ W'.cell? ⟨X, 2, none⟩ = some (Value.slice h2 H2.length hc2) ∧ W'.cell? ⟨X, 3, none⟩ = some (Value.int .i64 x2)) (by kernel_rfl) ?_ (fun hHeld => ?_)
  · exact unhide MK _ (bR.trans ⟨rfl, rfl, rfl, Nat.le_refl _, fun _ _ => rfl⟩) ((unhide VR).call ((Below.refl _ _).trans ⟨rfl, rfl, rfl, Nat.le_refl _, fun _ _ => rfl⟩ : Below wR.heap.size wR wR.drew)) ((unhide XR).call ((Below.refl _ _).trans ⟨rfl, rfl, rfl, Nat.le_refl _, fun _ _ => rfl⟩ : Below wR.heap.size wR wR.drew))
  have VD := (unhide VR).call ((Below.refl _ _).trans ⟨rfl, rfl, rfl, Nat.le_refl _, fun _ _ => rfl⟩ : Below wR.heap.size wR wR.drew)
  have XD := (unhide XR).call ((Below.refl _ _).trans ⟨rfl, rfl, rfl, Nat.le_refl _, fun _ _ => rfl⟩ : Below wR.heap.size wR wR.drew)
  have TD := bT.trans (((Below.refl _ _).trans ⟨rfl, rfl, rfl, Nat.le_refl _, fun _ _ => rfl⟩ : Below wR.heap.size wR wR.drew).mono bT.size)
  clear VR XR bR bT
  generalize wR.drew = D0 at hHeld VD XD TD ⊢
  refine wpAnyH_take (i := 0) (v := ?_) rfl (by kernel_rfl) (by kernel_rfl) (by kernel_rfl) (fun _ _ _ h => h) (Or.inl ⟨by kernel_rfl, ?_⟩) (by assumption) ?_
  rotate_left
  · (intro w hSw; (try dsimp only at hSw); go_simp; (try with_reducible rfl))
  try simp only [Act.put, kB0, kB1, kB2, kB3, kB4, kB5]
  refine wpAnyH_take (i := 1) (v := ?_) rfl (by kernel_rfl) (by kernel_rfl) (by kernel_rfl) (fun _ _ _ h => h) (Or.inl ⟨by kernel_rfl, ?_⟩) (by assumption) ?_
  rotate_left
  · (intro w hSw; (try dsimp only at hSw); go_simp; (try with_reducible rfl))
  try simp only [Act.put, kB0, kB1, kB2, kB3, kB4, kB5]
  refine wpAnyH_ready (rs := [2]) (by kernel_rfl) (by simp) ?_
  refine AllReadyH.cons rfl (fun K hK => ?_) AllReadyH.nil
  go_simp
  refine (unhide htt _ hHeld.1 hk).mono ?_
  rintro e D1 ⟨⟨s3, rfl, T3⟩, bX⟩
  replace VD := VD.call bX
  replace XD := XD.call bX
  replace TD := TD.trans (bX.mono TD.size)
  refine hK.out _ _ ?_ (fun hHeld => ?_)
  · exact unhide MK _ (hHeld.1.trans (bX.mono hHeld.1.size)) VD XD
  clear hK K bX
  try simp only [Act.put, kB0, kB1, kB2, kB3, kB4, kB5]
  refine wpAnyH_ready (rs := [3]) (by kernel_rfl) (by simp) ?_
  refine AllReadyH.cons rfl (fun K hK => ?_) AllReadyH.nil
  go_simp
  refine (unhide heq ⟨i2, c2, N2, m2, mc2, M2, h2, hc2, H2, x2⟩ s3 _ _ _ _ (unhide HT2) T3 hk _ TD (Below.refl _ _)).mono ?_
  rintro e D2 ⟨rfl, bX⟩
  replace VD := VD.call bX
  replace XD := XD.call bX
  refine hK.out _ _ ?_ (fun hHeld => ?_)
  · exact unhide MK _ (hHeld.1.trans (bX.mono hHeld.1.size)) VD XD
  clear hK K bX
  try simp only [Act.put, kB0, kB1, kB2, kB3, kB4, kB5]
  refine wpAnyH_take (i := 4) (v := ?_) rfl (by kernel_rfl) (by kernel_rfl) (by kernel_rfl) (fun _ _ _ h => h) (Or.inl ⟨by kernel_rfl, ?_⟩) (by assumption) ?_
  rotate_left
  · (intro w hSw; (try dsimp only at hSw); go_simp; (try with_reducible rfl))
  try simp only [Act.put, kB0, kB1, kB2, kB3, kB4, kB5]
  refine wpAnyH_done (by kernel_rfl) ?_ _
  have bF := hHeld.1
  clear hHeld
  go_wp2
  go_ret
  exact ⟨rfl, bF⟩
end fnExactHeld
end Go.Proofs.YtlgbdbmikmbioaaDoor
