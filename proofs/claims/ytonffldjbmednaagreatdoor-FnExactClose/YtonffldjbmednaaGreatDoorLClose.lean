import Derived.Test.YtonffldjbmednaaGreatDoorPlainSpT
import Derived.Test.YtonffldjbmednaaGreatDoorG36
import Derived.Test.YtonffldjbmednaaGreatDoorWSpS12
import Derived.Test.YtonffldjbmednaaGreatDoorPlainSub
import Derived.Test.YtonffldjbmednaaGreatDoorG48
namespace Go.Proofs.YtonffldjbmednaaGreatDoor
open Go.RowKit
namespace fnExactClose
set_option linter.unusedSimpArgs false in
set_option maxRecDepth 100000 in
set_option maxHeartbeats 4000000 in
theorem walk (s : Pl.Sp) (p : Int) (w : World) (ok : OpenSp.OkP w s) (r0 r1 r2 r3 : TypeId) (z0 z1 z2 z3 : Value) (hE : zl4.Errs4 w r0 r1 r2 r3 z0 z1 z2 z3) (hV : ∀ (r : Nat) t, WSpI.codes[r]? = some t → w.cell? ⟨0, r, none⟩ = some (.int .i64 t)) :
  Calls Tryz.prog 6 #[.agg s.cs, .int .i64 p] w fun e w' => e = .returned (.bool true) ∧ Below w.heap.size w w' := by
 obtain ⟨hv, hok, hnum⟩ := ok
 generalize hA : Pl.zg8 s p (Pl.ze9 s.next (s.N.map WSp.nr) s.M s.H Pl.wayB) = A
 have hsz := hide (fun W (b : Below w.heap.size w W) => zb.szSpace_any s W (hv.call b) hok)
 have htt := hide (fun W (b : Below w.heap.size w W) (hk : zb.OkS s 1048576) => zb.toSpace_any s W (hv.call b) hk)
 have hsame : ∀ (s1 : Pl.Sp) (v W : World), zb.SpT v W s s1 → Pl.zg8 s1 p (Pl.ze9 s1.next (s1.N.map WSp.nr) s1.M s1.H Pl.wayB) = A := fun s1 v W T => by
  rw [← hA]
  unfold Pl.zg8
  rw [T.nr, T.m, T.h, T.x, T.n]
 have hs := hide (fun (s1 : Pl.Sp) (v W : World) (T : zb.SpT v W s s1) (hk : zb.OkS s 1048576) => WSp.closeF_any s1 p W (T.ok hk) T.sp T.am T.ah T.rows A (hsame s1 v W T))
 have hi := hide (fun (s1 : Pl.Sp) (v W : World) (T : zb.SpT v W s s1) (hk : zb.OkS s 1048576) W' (b : Below W.heap.size W W') (hE' : zl4.Errs4 W' r0 r1 r2 r3 z0 z1 z2 z3) (hV' : ∀ (r : Nat) t, WSpI.codes[r]? = some t → W'.cell? ⟨0, r, none⟩ = some (.int .i64 t)) => WSpI.close_any s1 p W' (T.ok hk) (T.okN hnum) T.okA (T.sp.call b) hV' r0 r1 r2 r3 z0 z1 z2 z3 hE' A (hsame s1 v W T))
 have heq := hide (fun (s1 s2 : Pl.Sp) (v1 W1 v2 W2 : World) (T1 : zb.SpT v1 W1 s s1) (T2 : zb.SpT v2 W2 s s2) (hk : zb.OkS s 1048576) W (b1 : Below W1.heap.size W1 W) (b2 : Below W2.heap.size W2 W) => zb.zy6 s1 s2 W (T1.ok hk) (T2.n.trans T1.n.symm) (T2.m.trans T1.m.symm) (T2.h.trans T1.h.symm) (T2.x.trans T1.x.symm) (T1.sp.call b1) (T2.sp.call b2))
 have hmx := hide (fun (s1 : Pl.Sp) (v W : World) (T : zb.SpT v W s s1) (hk : zb.OkS s 1048576) gi gm gh B W' (h : zb.HasS W' s1 gi gm gh B) => WMkX.zx8 s1 gi gm gh B W' (T.ok hk) h)
 have hfok := hide (fun (hk : zb.OkS s 1048576) (u : Pl.Sp) (f : Pl.Fits u A) => zb.sub_ok hk (hA ▸ Pl.closeA_sub s p _) f)
 have hfsm := hide (fun (u : Pl.Sp) (f : Pl.Fits u A) => WSpO.sub_sm (Pl.closeA_small (fun h => by have := Pl.zs8 h; exact ⟨this.1, this.2.1, this.2.2.1, this.2.2.2.1⟩)) (hA ▸ f))
 have HE := hide hE
 have HV := hide hV
 clear hv hok hE hA hsame hV
 have heo := hide (fun (hk : zb.OkS s 1048576) (u v : Pl.Sp) (f : Pl.Fits u A) (g : Pl.Fits v A) W (hu : Mem.zc3 W u) (hv : Mem.zc3 W v) => WSpO.eq_any u v A.d A.p A.c W (za hfok hk u f) (g.n.trans f.n.symm) (g.m.trans f.m.symm) (g.h.trans f.h.symm) (g.x.trans f.x.symm) hu hv)
 have hmo := hide (fun (u : Pl.Sp) (f : Pl.Fits u A) S1 S2 S3 HH lo hi W h => WSpO.zd8 u A.d A.p A.c S1 S2 S3 HH lo hi W (za hfsm u f) h)
 have hho := hide (fun (u : Pl.Sp) (f : Pl.Fits u A) W h => WSpO.zd9 u A.d A.p A.c W (za hfsm u f) h)
 clear hfok hfsm
 generalize A.d = dA at hs hi heo hmo hho
 generalize A.p = pA at hs hi heo hmo hho
 generalize A.c = cA at hs hi heo hmo hho
 unfold WSpO.so at hs hi heo hmo hho
 obtain ⟨ia, ic, N, ma, mc, M, ha, hc, H, next⟩ := s
 unfold Pl.Sp.cs at hsz htt ⊢
 simp only at hsz htt ⊢
 have b0 := (Below.refl w.heap.size w).alloc (o := .cells #[Value.slice ia N.length ic, Value.slice ma M.length mc, Value.slice ha H.length hc, Value.int .i64 next] 26) (Nat.le_refl _)
 have V0 := hide (Mem.Blk.new w #[Value.slice ia N.length ic, Value.slice ma M.length mc, Value.slice ha H.length hc, Value.int .i64 next] 26)
 have a0 := (za V0).cell 0
 have a1 := (za V0).cell 1
 have a2 := (za V0).cell 2
 have a3 := (za V0).cell 3
 simp only [kGs] at a0 a1 a2 a3
 go_enter Tryz.func6, Tryz.ntmps6
 go_wp2_with fail
 generalize w.alloc (.cells #[Value.slice ia N.length ic, Value.slice ma M.length mc, Value.slice ha H.length hc, Value.int .i64 next] 26) = wA at b0 V0 a0 a1 a2 a3 ⊢
 refine (za hsz _ b0).mono ?_
 rintro e w1 ⟨⟨r, rfl, hr⟩, bX⟩
 have b1 := b0.trans (bX.mono b0.size)
 have V1 := hide ((za V0).call bX)
 clear b0 V0 bX hsz a0 a1 a2 a3
 rcases hr with rfl | ⟨hr0, hk⟩
 ·go_wp2
  go_ret
  exact ⟨rfl, b1⟩
 have hr2 : ¬ r < 0 := by omega
 have a0 := (za V1).cell 0
 have a1 := (za V1).cell 1
 have a2 := (za V1).cell 2
 have a3 := (za V1).cell 3
 simp only [kGs] at a0 a1 a2 a3
 go_wp2_with fail
 refine (za htt _ b1 hk).mono ?_
 rintro e w2 ⟨⟨s1, rfl, T1⟩, bX⟩
 have b2 := b1.trans (bX.mono b1.size)
 have V2 := hide ((za V1).call bX)
 clear b1 V1 bX a0 a1 a2 a3
 have HC := hide (za hs s1 _ _ T1 hk)
 clear T1 hs
 obtain ⟨i1, c1, N1, m1, mc1, M1, h1, hc1, H1, nx1⟩ := s1
 unfold Pl.Sp.cs at HC
 simp only at HC ⊢
 go_wp2_with fail
 refine (za HC).mono ?_
 rintro e w3 ⟨⟨u0, rfl, sp0, f0⟩, b3⟩
 have bw3 := b2.trans (b3.mono b2.size)
 have V3 := hide ((za V2).call b3)
 have F0 := hide f0
 have SP0 := hide (fun W (b : Below w3.heap.size w3 W) => sp0.call b)
 have hV3 : w.heap.size < w3.heap.size := (za V3).lt
 clear b2 b3 V2 HC sp0 f0
 obtain ⟨i0, c0, N0, m0, mc0, M0, h0, hc0, H0, nx0⟩ := u0
 simp only at SP0 F0 ⊢
 have BB : Below w3.heap.size w3 (w3.alloc (.cells #[Value.slice i0 N0.length c0, Value.slice m0 M0.length mc0, Value.slice h0 H0.length hc0, Value.int .i64 nx0, Value.int .i64 dA, Value.string pA, Value.int .i64 cA] 34)) := (Below.refl _ _).alloc (Nat.le_refl _) _
 have V4 := hide ((za V3).call BB)
 have Y4 := hide (Mem.Blk.new w3 #[Value.slice i0 N0.length c0, Value.slice m0 M0.length mc0, Value.slice h0 H0.length hc0, Value.int .i64 nx0, Value.int .i64 dA, Value.string pA, Value.int .i64 cA] 34)
 have hY : (w3.alloc (.cells #[Value.slice i0 N0.length c0, Value.slice m0 M0.length mc0, Value.slice h0 H0.length hc0, Value.int .i64 nx0, Value.int .i64 dA, Value.string pA, Value.int .i64 cA] 34)).heap.size = w3.heap.size + 1 := by simp
 clear V3
 have a0 := (za V4).cell 0
 have a1 := (za V4).cell 1
 have a2 := (za V4).cell 2
 have a3 := (za V4).cell 3
 simp only [kGs] at a0 a1 a2 a3
 go_wp2_with fail
 generalize w3.alloc (.cells #[Value.slice i0 N0.length c0, Value.slice m0 M0.length mc0, Value.slice h0 H0.length hc0, Value.int .i64 nx0, Value.int .i64 dA, Value.string pA, Value.int .i64 cA] 34) = w4 at BB V4 Y4 hY a0 a1 a2 a3 ⊢
 refine (za htt _ (bw3.trans (BB.mono bw3.size)) hk).mono ?_
 rintro e w5 ⟨⟨s2, rfl, T2⟩, b5⟩
 have B5 := BB.trans (b5.mono BB.size)
 have V5 := hide ((za V4).call b5)
 have Y5 := hide ((za Y4).call b5)
 obtain ⟨gi, gm, gh, B, hgi, hgh, HA5⟩ := T2.has
 have hgY : w3.heap.size < gi := by omega
 have hYX : w3.heap.size < w5.heap.size := by have := b5.size; omega
 clear BB V4 Y4 b5 a0 a1 a2 a3 hY hgi
 have bA : Below w5.heap.size w5 (w5.alloc (.cells (Pl.Sp.cs s2) 32)) := (Below.refl _ _).alloc (Nat.le_refl _) _
 have B6 := B5.trans (bA.mono B5.size)
 have V6 := hide ((za V5).call bA)
 have Y6 := hide ((za Y5).call bA)
 have X6 := hide (Mem.Blk.new w5 (Pl.Sp.cs s2) 32)
 have A6 := hide (HA5.call bA)
 have bw6 := bw3.trans (B6.mono bw3.size)
 have HC := hide (za hi s2 _ _ T2 hk _ bA ((za HE).call bw6) (WSpI.zq0 (za HV) bw6))
 have HMX := hide (fun W' h => za hmx s2 _ _ T2 hk gi gm gh B W' h)
 have hX6 : (w5.alloc (.cells (Pl.Sp.cs s2) 32)).heap.size = w5.heap.size + 1 := by simp
 have HT2 := hide T2
 clear T2 HA5 V5 Y5 hmx B5 bw6
 obtain ⟨i2, c2, N2, m2, mc2, M2, h2, hc2, H2, nx2⟩ := s2
 unfold Pl.Sp.cs at HC bA V6 Y6 X6 A6 HMX hX6 B6
 simp only at HC bA V6 Y6 X6 A6 HMX hX6 B6 ⊢
 have y0 := (za X6).cell 0
 have y1 := (za X6).cell 1
 have y2 := (za X6).cell 2
 have y3 := (za X6).cell 3
 simp only [kGs] at y0 y1 y2 y3
 go_wp2_with fail
 generalize w5.alloc (.cells #[Value.slice i2 N2.length c2, Value.slice m2 M2.length mc2, Value.slice h2 H2.length hc2, Value.int .i64 nx2] 32) = w6 at bA B6 V6 Y6 X6 A6 HC hX6 y0 y1 y2 y3 ⊢
 refine (za HC).mono ?_
 rintro e w7 ⟨⟨ug, S1, S2, S3, HH, lo, hi', rfl, an, hS1, fg⟩, b7⟩
 have FG := hide fg
 obtain ⟨ig, cg, Ng, mg, mcg, Mg, hg, hcg, Hg, nxg⟩ := ug
 simp only at an FG ⊢
 have b8 : Below w6.heap.size w6 (w7.alloc (.cells #[Value.slice ig Ng.length cg, Value.slice mg Mg.length mcg, Value.slice hg Hg.length hcg, Value.int .i64 nxg, Value.int .i64 dA, Value.string pA, Value.int .i64 cA] 34)) := b7.alloc b7.size _
 have B8 := B6.trans (b8.mono B6.size)
 have V8 := hide ((za V6).call b8)
 have Y8 := hide ((za Y6).call b8)
 have X8 := hide ((za X6).call b8)
 have A8 := hide ((za A6).call b8)
 have T8 : Below w5.heap.size w5 (w7.alloc (.cells #[Value.slice ig Ng.length cg, Value.slice mg Mg.length mcg, Value.slice hg Hg.length hcg, Value.int .i64 nxg, Value.int .i64 dA, Value.string pA, Value.int .i64 cA] 34)) := bA.trans (b8.mono bA.size)
 have hHG : HH ≤ w7.heap.size := an.s5
 have G8 := hide (Mem.Blk.new w7 #[Value.slice ig Ng.length cg, Value.slice mg Mg.length mcg, Value.slice hg Hg.length hcg, Value.int .i64 nxg, Value.int .i64 dA, Value.string pA, Value.int .i64 cA] 34)
 have AN8 := hide (an.call ((Below.refl _ _).alloc (Nat.le_refl _) (.cells #[Value.slice ig Ng.length cg, Value.slice mg Mg.length mcg, Value.slice hg Hg.length hcg, Value.int .i64 nxg, Value.int .i64 dA, Value.string pA, Value.int .i64 cA] 34)))
 have hS1X : w5.heap.size < S1 := by omega
 have hX7 : w5.heap.size < w7.heap.size := by have := b7.size; omega
 clear B6 V6 Y6 X6 A6 b8 b7 HC bA y0 y1 y2 y3 an fg hX6 hS1
 have d0 := (za Y8).cell 0
 have d1 := (za Y8).cell 1
 have d2 := (za Y8).cell 2
 have d3 := (za Y8).cell 3
 have d4 := (za Y8).cell 4
 have d5 := (za Y8).cell 5
 have d6 := (za Y8).cell 6
 simp only [kGs] at d0 d1 d2 d3 d4 d5 d6
 have e0 := (za G8).cell 0
 have e1 := (za G8).cell 1
 have e2 := (za G8).cell 2
 have e3 := (za G8).cell 3
 have e4 := (za G8).cell 4
 have e5 := (za G8).cell 5
 have e6 := (za G8).cell 6
 simp only [kGs] at e0 e1 e2 e3 e4 e5 e6
 go_wp2_with fail
 generalize w7.alloc (.cells #[Value.slice ig Ng.length cg, Value.slice mg Mg.length mcg, Value.slice hg Hg.length hcg, Value.int .i64 nxg, Value.int .i64 dA, Value.string pA, Value.int .i64 cA] 34) = w8 at B8 V8 Y8 X8 A8 T8 G8 AN8 d0 d1 d2 d3 d4 d5 d6 e0 e1 e2 e3 e4 e5 e6 ⊢
 refine (za heo hk ⟨ig, cg, Ng, mg, mcg, Mg, hg, hcg, Hg, nxg⟩ ⟨i0, c0, N0, m0, mc0, M0, h0, hc0, H0, nx0⟩ (za FG) (za F0) _ (za AN8).space (za SP0 _ B8)).mono ?_
 rintro e v10 ⟨rfl, b9⟩
 have B9 := B8.trans (b9.mono B8.size)
 have V9 := hide ((za V8).call b9)
 have Y9 := hide ((za Y8).call b9)
 have X9 := hide ((za X8).call b9)
 have A9 := hide ((za A8).call b9)
 have G9 := hide ((za G8).call b9)
 have AN9 := hide ((za AN8).call b9)
 have TD : Below w5.heap.size w5 v10 := T8.trans (b9.mono T8.size)
 generalize w7.heap.size = G at G9 hHG hX7 ⊢
 clear B8 V8 Y8 X8 A8 G8 AN8 b9 d0 d1 d2 d3 d4 d5 d6 e0 e1 e2 e3 e4 e5 e6 T8
 have MK : Hid (∀ W', Below v10.heap.size v10 W' → (fun W' => Below v10.heap.size v10 W' ∧ W'.cell? ⟨w.heap.size, 0, none⟩ = some (Value.slice ia N.length ic) ∧ W'.cell? ⟨w.heap.size, 1, none⟩ = some (Value.slice ma M.length mc) ∧ W'.cell? ⟨w.heap.size, 2, none⟩ = some (Value.slice ha H.length hc) ∧ W'.cell? ⟨w.heap.size, 3, none⟩ = some (Value.int .i64 next) ∧ W'.cell? ⟨w5.heap.size, 0, none⟩ = some (Value.slice i2 N2.length c2) ∧ W'.cell? ⟨w5.heap.size, 1, none⟩ = some (Value.slice m2 M2.length mc2) ∧ W'.cell? ⟨w5.heap.size, 2, none⟩ = some (Value.slice h2 H2.length hc2) ∧ W'.cell? ⟨w5.heap.size, 3, none⟩ = some (Value.int .i64 nx2)) W') := fun W' b => ⟨b, ((za V9).call b).cell 0, ((za V9).call b).cell 1, ((za V9).call b).cell 2, ((za V9).call b).cell 3, ((za X9).call b).cell 0, ((za X9).call b).cell 1, ((za X9).call b).cell 2, ((za X9).call b).cell 3⟩
 have bel10 := bw3.trans (B9.mono bw3.size)
 go_upto_region 10 with fail
 refine wp_region_held_drew (S := fun W' => Below v10.heap.size v10 W' ∧ W'.cell? ⟨w.heap.size, 0, none⟩ = some (Value.slice ia N.length ic) ∧ W'.cell? ⟨w.heap.size, 1, none⟩ = some (Value.slice ma M.length mc) ∧ W'.cell? ⟨w.heap.size, 2, none⟩ = some (Value.slice ha H.length hc) ∧ W'.cell? ⟨w.heap.size, 3, none⟩ = some (Value.int .i64 next) ∧ W'.cell? ⟨w5.heap.size, 0, none⟩ = some (Value.slice i2 N2.length c2) ∧ W'.cell? ⟨w5.heap.size, 1, none⟩ = some (Value.slice m2 M2.length mc2) ∧ W'.cell? ⟨w5.heap.size, 2, none⟩ = some (Value.slice h2 H2.length hc2) ∧ W'.cell? ⟨w5.heap.size, 3, none⟩ = some (Value.int .i64 nx2)) (by kernel_rfl) ?_ (fun hHeld => ?_)
 ·exact za MK _ ((Below.refl _ _).trans ⟨rfl, rfl, rfl, Nat.le_refl _, fun _ _ => rfl⟩)
 generalize v10.drew = D0 at hHeld ⊢
 refine tka (i := 0) rfl ?_
 try simp only [Act.put, kBs]
 refine tka (i := 1) rfl ?_
 try simp only [Act.put, kBs]
 refine wpAnyH_ready (rs := [2]) (by kernel_rfl) (by simp) ?_
 refine AllReadyH.cons rfl (fun K hK => ?_) AllReadyH.nil
 go_simp
 refine (za htt _ (bel10.trans (hHeld.1.mono bel10.size)) hk).mono ?_
 rintro e D1 ⟨⟨s3, rfl, T3⟩, bX⟩
 refine hK.out _ _ ?_ (fun hHeld => ?_)
 ·exact za MK _ (hHeld.1.trans (bX.mono hHeld.1.size))
 clear hK K bX
 try simp only [Act.put, kBs]
 refine wpAnyH_ready (rs := [3]) (by kernel_rfl) (by simp) ?_
 refine AllReadyH.cons rfl (fun K hK => ?_) AllReadyH.nil
 go_simp
 refine (za heq ⟨i2, c2, N2, m2, mc2, M2, h2, hc2, H2, nx2⟩ s3 _ _ _ _ (za HT2) T3 hk _ (TD.trans (hHeld.1.mono TD.size)) (Below.refl _ _)).mono ?_
 rintro e D2 ⟨rfl, bX⟩
 refine hK.out _ _ ?_ (fun hHeld => ?_)
 ·exact za MK _ (hHeld.1.trans (bX.mono hHeld.1.size))
 clear hK K bX
 try simp only [Act.put, kBs]
 refine tka (i := 4) rfl ?_
 try simp only [Act.put, kBs]
 refine wpAnyH_done (by kernel_rfl) ?_ _
 have bF := hHeld.1
 clear hHeld
 have BA := B9.trans (bF.mono B9.size)
 have VA := hide ((za V9).call bF)
 have YA := hide ((za Y9).call bF)
 have XA := hide ((za X9).call bF)
 have AA := hide ((za A9).call bF)
 have GA := hide ((za G9).call bF)
 have ANA := hide ((za AN9).call bF)
 clear B9 V9 Y9 X9 A9 G9 AN9 bF TD MK bel10 HT2 heq
 have y0 := (za XA).cell 0
 have y1 := (za XA).cell 1
 have y2 := (za XA).cell 2
 have y3 := (za XA).cell 3
 simp only [kGs] at y0 y1 y2 y3
 generalize w5.heap.size = X at hgh hYX hS1X hX7 XA y0 y1 y2 y3 ⊢
 clear XA
 have HC := hide (za HMX _ (za AA))
 clear HMX
 go_wp2_with fail
 refine (za HC).mono ?_
 rintro e w11 ⟨⟨kk, rfl, hkk⟩, hb0⟩
 have hband : Mem.Band gi X _ w11 := ⟨hb0.os, hb0.tape, hb0.output, hb0.size, fun j hj hh => hb0.block j hj (by omega)⟩
 have B12 : Below w3.heap.size w3 w11 := BA.trans ⟨hband.os, hband.tape, hband.output, hband.size, fun j hj => hband.block j (Nat.lt_of_lt_of_le hj BA.size) (.inl (by omega))⟩
 have Y12 := hide (hband.blk (za YA) (.inl (by omega)))
 have G12 := hide (hband.blk (za GA) (.inr (by omega)))
 have AN12 := hide ((za ANA).band hband (by omega))
 have V12 := hide (hband.blk (za VA) (.inl (by omega)))
 have HK0 : ¬ ((kk : Nat) : Int) < 0 := by omega
 clear BA VA YA AA GA ANA hb0 hband HC hkk y0 y1 y2 y3
 have d0 := (za Y12).cell 0
 have d1 := (za Y12).cell 1
 have d2 := (za Y12).cell 2
 have d3 := (za Y12).cell 3
 have d4 := (za Y12).cell 4
 have d5 := (za Y12).cell 5
 have d6 := (za Y12).cell 6
 simp only [kGs] at d0 d1 d2 d3 d4 d5 d6
 have e0 := (za G12).cell 0
 have e1 := (za G12).cell 1
 have e2 := (za G12).cell 2
 have e3 := (za G12).cell 3
 have e4 := (za G12).cell 4
 have e5 := (za G12).cell 5
 have e6 := (za G12).cell 6
 simp only [kGs] at e0 e1 e2 e3 e4 e5 e6
 go_wp2_with fail
 refine (za heo hk ⟨ig, cg, Ng, mg, mcg, Mg, hg, hcg, Hg, nxg⟩ ⟨i0, c0, N0, m0, mc0, M0, h0, hc0, H0, nx0⟩ (za FG) (za F0) _ (za AN12).space (za SP0 _ B12)).mono ?_
 rintro e w13 ⟨rfl, b13⟩
 have B13 := B12.trans (b13.mono B12.size)
 have Y13 := hide ((za Y12).call b13)
 have V13 := hide ((za V12).call b13)
 have G13 := hide ((za G12).call b13)
 have AN13 := hide ((za AN12).call b13)
 clear B12 V12 G12 Y12 AN12 b13 d0 d1 d2 d3 d4 d5 d6 e0 e1 e2 e3 e4 e5 e6
 have e0 := (za G13).cell 0
 have e1 := (za G13).cell 1
 have e2 := (za G13).cell 2
 have e3 := (za G13).cell 3
 have e4 := (za G13).cell 4
 have e5 := (za G13).cell 5
 have e6 := (za G13).cell 6
 simp only [kGs] at e0 e1 e2 e3 e4 e5 e6
 have HC := hide (za hmo ⟨ig, cg, Ng, mg, mcg, Mg, hg, hcg, Hg, nxg⟩ (za FG) S1 S2 S3 HH lo hi' _ (za AN13))
 go_wp2_with fail
 refine (za HC).mono ?_
 rintro e w15 ⟨rfl, M15, hb15⟩
 have B15 : Below w3.heap.size w3 w15 := B13.trans ⟨hb15.os, hb15.tape, hb15.output, hb15.size, fun j hj => hb15.block j (Nat.lt_of_lt_of_le hj B13.size) (.inl (by omega))⟩
 have Y15 := hide (hb15.blk (za Y13) (.inl (by omega)))
 have V15 := hide (hb15.blk (za V13) (.inl (by omega)))
 have G15 := hide (hb15.blk (za G13) (.inr (by omega)))
 have M16 := hide M15
 have hh2 := hide (fun W h => za hho ⟨ig, cg, Ng, mg, mcg, Mg, hg, hcg, Hg, nxg⟩ (za FG) W h)
 generalize WSpO.kF ⟨ig, cg, Ng, mg, mcg, Mg, hg, hcg, Hg, nxg⟩ = mm at hh2 ⊢
 have HM0 : ¬ ((mm : Nat) : Int) < 0 := by omega
 clear B13 V13 G13 Y13 AN13 hb15 hmo hho M15 HC e0 e1 e2 e3 e4 e5 e6
 have e0 := (za G15).cell 0
 have e1 := (za G15).cell 1
 have e2 := (za G15).cell 2
 have e3 := (za G15).cell 3
 have e4 := (za G15).cell 4
 have e5 := (za G15).cell 5
 have e6 := (za G15).cell 6
 simp only [kGs] at e0 e1 e2 e3 e4 e5 e6
 go_wp2_with fail
 refine (za hh2 _ (za M16)).mono ?_
 rintro e w17 ⟨rfl, b17⟩
 have B17 := B15.trans (b17.mono B15.size)
 have Y17 := hide ((za Y15).call b17)
 have V17 := hide ((za V15).call b17)
 have G17 := hide ((za G15).call b17)
 have M17 := hide ((za M16).call b17)
 clear B15 V15 Y15 G15 M16 b17 e0 e1 e2 e3 e4 e5 e6
 have a0 := (za V17).cell 0
 have a1 := (za V17).cell 1
 have a2 := (za V17).cell 2
 have a3 := (za V17).cell 3
 simp only [kGs] at a0 a1 a2 a3
 go_wp2_with fail
 refine (za htt _ (bw3.trans (B17.mono bw3.size)) hk).mono ?_
 rintro e w18 ⟨⟨s4, rfl, T4⟩, b18⟩
 have B18 := B17.trans (b18.mono B17.size)
 have Y18 := hide ((za Y17).call b18)
 have G18 := hide ((za G17).call b18)
 have M18 := hide ((za M17).call b18)
 have bw18 := bw3.trans (B18.mono bw3.size)
 have HC := hide (za hi s4 _ _ T4 hk _ (Below.refl _ _) ((za HE).call bw18) (WSpI.zq0 (za HV) bw18))
 clear B17 V17 Y17 G17 M17 b18 T4 a0 a1 a2 a3 bw18
 obtain ⟨i4, c4, N4, m4, mc4, M4, h4, hc4, H4, nx4⟩ := s4
 unfold Pl.Sp.cs at HC
 simp only at HC ⊢
 go_wp2_with fail
 refine (za HC).mono ?_
 rintro e w19 ⟨⟨uh, S1', S2', S3', HH', lo', hi2, rfl, an, hS1', fh⟩, b19⟩
 have FH := hide fh
 obtain ⟨ih, ch, Nh, mh, mch, Mh, hh, hch, Hh, nxh⟩ := uh
 simp only at an FH ⊢
 have b20 : Below w19.heap.size w19 (w19.alloc (.cells #[Value.slice ih Nh.length ch, Value.slice mh Mh.length mch, Value.slice hh Hh.length hch, Value.int .i64 nxh, Value.int .i64 dA, Value.string pA, Value.int .i64 cA] 34)) := (Below.refl _ _).alloc (Nat.le_refl _) _
 have B20 := (B18.trans (b19.mono B18.size)).trans (b20.mono (B18.trans (b19.mono B18.size)).size)
 have Y20 := hide (((za Y18).call b19).call b20)
 have G20 := hide (((za G18).call b19).call b20)
 have M20 := hide (((za M18).call b19).call b20)
 have AN20 := hide (an.call b20)
 have Q20 := hide (Mem.Blk.new w19 #[Value.slice ih Nh.length ch, Value.slice mh Mh.length mch, Value.slice hh Hh.length hch, Value.int .i64 nxh, Value.int .i64 dA, Value.string pA, Value.int .i64 cA] 34)
 clear B18 Y18 G18 M18 b19 b20 an HC fh hS1'
 have d0 := (za Y20).cell 0
 have d1 := (za Y20).cell 1
 have d2 := (za Y20).cell 2
 have d3 := (za Y20).cell 3
 have d4 := (za Y20).cell 4
 have d5 := (za Y20).cell 5
 have d6 := (za Y20).cell 6
 simp only [kGs] at d0 d1 d2 d3 d4 d5 d6
 have e0 := (za Q20).cell 0
 have e1 := (za Q20).cell 1
 have e2 := (za Q20).cell 2
 have e3 := (za Q20).cell 3
 have e4 := (za Q20).cell 4
 have e5 := (za Q20).cell 5
 have e6 := (za Q20).cell 6
 simp only [kGs] at e0 e1 e2 e3 e4 e5 e6
 go_wp2_with fail
 refine (za heo hk ⟨ih, ch, Nh, mh, mch, Mh, hh, hch, Hh, nxh⟩ ⟨i0, c0, N0, m0, mc0, M0, h0, hc0, H0, nx0⟩ (za FH) (za F0) _ (za AN20).space (za SP0 _ B20)).mono ?_
 rintro e w21 ⟨rfl, b21⟩
 have B21 := B20.trans (b21.mono B20.size)
 have G21 := hide ((za G20).call b21)
 have M21 := hide ((za M20).call b21)
 clear B20 Y20 G20 M20 AN20 Q20 b21 d0 d1 d2 d3 d4 d5 d6 e0 e1 e2 e3 e4 e5 e6
 have e0 := (za G21).cell 0
 have e1 := (za G21).cell 1
 have e2 := (za G21).cell 2
 have e3 := (za G21).cell 3
 have e4 := (za G21).cell 4
 have e5 := (za G21).cell 5
 have e6 := (za G21).cell 6
 simp only [kGs] at e0 e1 e2 e3 e4 e5 e6
 go_wp2_with fail
 refine (za hh2 _ (za M21)).mono ?_
 rintro e w22 ⟨rfl, b22⟩
 have bfin := bw3.trans ((B21.trans (b22.mono B21.size)).mono bw3.size)
 clear B21 G21 M21 b22 e0 e1 e2 e3 e4 e5 e6
 go_wp2
 go_ret
 exact ⟨rfl, bfin⟩
end fnExactClose
end Go.Proofs.YtonffldjbmednaaGreatDoor

