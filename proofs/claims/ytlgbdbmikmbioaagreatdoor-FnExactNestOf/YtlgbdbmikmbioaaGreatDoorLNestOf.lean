import Derived.Test.YtlgbdbmikmbioaaGreatDoorPlainSpT
import Derived.Test.YtlgbdbmikmbioaaGreatDoorG27
import Derived.Test.YtlgbdbmikmbioaaGreatDoorG33
import Derived.Test.YtlgbdbmikmbioaaGreatDoorG42
import Derived.Test.YtlgbdbmikmbioaaGreatDoorG43
import Derived.Test.YtlgbdbmikmbioaaGreatDoorG45
namespace Go.Proofs.YtlgbdbmikmbioaaGreatDoor
open Go.RowKit
namespace fnExactNestOf
set_option linter.unusedSimpArgs false in
set_option maxRecDepth 100000 in
set_option maxHeartbeats 2000000 in
theorem walk (s : Pl.Sp) (d : Int) (w : World) (ok : OpenSp.OkP w s) (hd : MapI.i64 d) (r0 r1 r2 r3 : TypeId) (z0 z1 z2 z3 : Value) (hE : zj0.Errs4 w r0 r1 r2 r3 z0 z1 z2 z3) :
  Calls Tryz.prog 4 #[.agg s.cs, .int .i64 d] w fun e w' => e = .returned (.bool true) ∧ Below w.heap.size w w' := by
 obtain ⟨hv, hok, hnum⟩ := ok
 have hsz := hide (fun W (b : Below w.heap.size w W) => za9.szSpace_any s W (hv.call b) hok)
 have htt := hide (fun W (b : Below w.heap.size w W) (hk : za9.OkS s 1048576) => za9.toSpace_any s W (hv.call b) hk)
 have hs := hide (fun (s1 : Pl.Sp) (v W : World) (T : za9.SpT v W s s1) (hk : za9.OkS s 1048576) => by
  have := WSp.zr4 s1 d W (T.ok hk) T.sp T.rows
  rw [T.nr, T.m, T.h, T.x, T.n] at this
  exact this)
 have hi := hide (fun (s1 : Pl.Sp) (v W : World) (T : za9.SpT v W s s1) (hk : za9.OkS s 1048576) W' (b : Below W.heap.size W W') (hE' : zj0.Errs4 W' r0 r1 r2 r3 z0 z1 z2 z3) => by
  have := WSpI.zr4 s1 d hd W' (T.ok hk) (T.okN hnum) T.okA (T.sp.call b) r0 r1 r2 r3 z0 z1 z2 z3 hE'
  rw [T.nr, T.m, T.h, T.x, T.n] at this
  exact this)
 have heq := hide (fun (s1 s2 : Pl.Sp) (v1 W1 v2 W2 : World) (T1 : za9.SpT v1 W1 s s1) (T2 : za9.SpT v2 W2 s s2) (hk : za9.OkS s 1048576) W (b1 : Below W1.heap.size W1 W) (b2 : Below W2.heap.size W2 W) => za9.eqSpace_any s1 s2 W (T1.ok hk) (T2.n.trans T1.n.symm) (T2.m.trans T1.m.symm) (T2.h.trans T1.h.symm) (T2.x.trans T1.x.symm) (T1.sp.call b1) (T2.sp.call b2))
 have hmx := hide (fun (s1 : Pl.Sp) (v W : World) (T : za9.SpT v W s s1) (hk : za9.OkS s 1048576) gi gm gh B W' (h : za9.HasS W' s1 gi gm gh B) => WMkX.zu4 s1 gi gm gh B W' (T.ok hk) h)
 have hol0 := Pl.nestL_le (N := s.N) (M := s.M) (H := s.H) (next := s.next) (way := Pl.wayB) rfl d
 generalize Pl.zj4 (Pl.zd1 s.next (s.N.map WSp.nr) s.M s.H Pl.wayB) (Pl.zc8 (s.N.map Pl.Ns.r) d) = O at hs hi hol0
 generalize Pl.nestC (Pl.zd1 s.next (s.N.map WSp.nr) s.M s.H Pl.wayB) (Pl.zc8 (s.N.map Pl.Ns.r) d) = c at hs hi
 have heo := hide (WMkR.eq_any O hol0.1 hol0.2)
 have hmo := hide (WMkR.zc5 O hol0.1 hol0.2)
 have hho := hide (WMkR.ze9 O hol0.1 hol0.2)
 have HE := hide hE
 clear hv hok hE hol0 hd
 obtain ⟨ia, ic, N, ma, mc, M, ha, hc, H, next⟩ := s
 unfold Pl.Sp.cs at hsz htt ⊢
 simp only at hsz htt ⊢
 have b0 := (Below.refl w.heap.size w).alloc (o := .cells #[.slice ia N.length ic, .slice ma M.length mc, .slice ha H.length hc, .int .i64 next] 43) (Nat.le_refl _)
 have V0 := hide (Mem.Blk.new w #[.slice ia N.length ic, .slice ma M.length mc, .slice ha H.length hc, .int .i64 next] 43)
 have a0 := (za V0).cell 0
 have a1 := (za V0).cell 1
 have a2 := (za V0).cell 2
 have a3 := (za V0).cell 3
 simp only [kGs] at a0 a1 a2 a3
 go_enter Tryz.func4, Tryz.ntmps4
 go_wp2_with fail
 generalize w.alloc (.cells #[.slice ia N.length ic, .slice ma M.length mc, .slice ha H.length hc, .int .i64 next] 43) = wA at b0 V0 a0 a1 a2 a3 ⊢
 refine (za hsz _ b0).mono ?_
 rintro e w1 ⟨⟨r, rfl, hr⟩, bX⟩
 have b1 := b0.trans (bX.mono b0.size)
 have V1 := hide ((za V0).call bX)
 clear b0 V0 bX hsz a0 a1 a2 a3
 rcases hr with rfl | ⟨hr0, hk⟩
 ·go_wp2
  go_ret
  exact ⟨rfl, b1⟩
 have hr2 : ¬ r < 0 := by omega
 have a0 := (za V1).cell 0
 have a1 := (za V1).cell 1
 have a2 := (za V1).cell 2
 have a3 := (za V1).cell 3
 simp only [kGs] at a0 a1 a2 a3
 go_wp2_with fail
 refine (za htt _ b1 hk).mono ?_
 rintro e w2 ⟨⟨s1, rfl, T1⟩, bX⟩
 have b2 := b1.trans (bX.mono b1.size)
 have V2 := hide ((za V1).call bX)
 clear b1 V1 bX a0 a1 a2 a3
 have HC := hide (za hs s1 _ _ T1 hk)
 clear T1 hs
 obtain ⟨i1, c1, N1, m1, mc1, M1, h1, hc1, H1, x1⟩ := s1
 unfold Pl.Sp.cs at HC
 simp only at HC ⊢
 go_wp2_with fail
 refine (za HC).mono ?_
 rintro e w3 ⟨⟨vw, U, rfl, ownw, hrw⟩, b3⟩
 obtain ⟨aw, cw, rfl⟩ := Mem.zd4 ownw.row
 rw [WMkR.zo1 hrw] at ownw ⊢
 have bw3 := b2.trans (b3.mono b2.size)
 have bA4 : Below w3.heap.size w3 (w3.alloc (.cells #[.slice aw O.length cw, .int .i64 c] 46)) := (Below.refl _ _).alloc (Nat.le_refl _) _
 have S3 : WMkR.OW w (w3.alloc (.cells #[.slice aw O.length cw, .int .i64 c] 46)) w3.heap.size w2.heap.size aw cw U O c :=
  ⟨bw3.alloc bw3.size _, Mem.Blk.new _ _ _, ownw.call bA4, hrw, fun g hg => (ownw.lt.1 g hg).2, fun x hx g hg => (ownw.mem_lt x hx g hg).2, bw3.size⟩
 have hY : (w3.alloc (.cells #[.slice aw O.length cw, .int .i64 c] 46)).heap.size = w3.heap.size + 1 := by simp
 have V4 := hide (((za V2).call b3).call bA4)
 have hVY : w.heap.size < w3.heap.size := Nat.lt_of_lt_of_le (za V2).lt b3.size
 have K3 := hide S3
 clear b2 b3 ownw bw3 hrw HC V2 S3 bA4
 have a0 := (za V4).cell 0
 have a1 := (za V4).cell 1
 have a2 := (za V4).cell 2
 have a3 := (za V4).cell 3
 simp only [kGs] at a0 a1 a2 a3
 go_wp2_with fail
 generalize w3.alloc (.cells #[.slice aw O.length cw, .int .i64 c] 46) = w4 at K3 V4 hY a0 a1 a2 a3 ⊢
 refine (za htt _ (za K3).bel hk).mono ?_
 rintro e w5 ⟨⟨s2, rfl, T2⟩, b5⟩
 have S5 := hide ((za K3).call b5)
 have V5 := hide ((za V4).call b5)
 obtain ⟨gi, gm, gh, B, hgi, hgh, HA5⟩ := T2.has
 have hgY : w3.heap.size < gi := by omega
 have hYX : w3.heap.size < w5.heap.size := by have := b5.size; omega
 clear K3 V4 b5 a0 a1 a2 a3 hY hgi
 have bA : Below w5.heap.size w5 (w5.alloc (.cells (Pl.Sp.cs s2) 28)) := (Below.refl _ _).alloc (Nat.le_refl _) _
 have S6 := hide ((za S5).call bA)
 have V6 := hide ((za V5).call bA)
 have X6 := hide (Mem.Blk.new w5 (Pl.Sp.cs s2) 28)
 have A6 := hide (HA5.call bA)
 have HC := hide (za hi s2 _ _ T2 hk _ bA ((za HE).call (za S6).bel))
 have HMX := hide (fun W' h => za hmx s2 _ _ T2 hk gi gm gh B W' h)
 have hX6 : (w5.alloc (.cells (Pl.Sp.cs s2) 28)).heap.size = w5.heap.size + 1 := by simp
 have HT2 := hide T2
 clear T2 HA5 S5 V5 hmx
 obtain ⟨i2, c2, N2, m2, mc2, M2, h2, hc2, H2, x2⟩ := s2
 unfold Pl.Sp.cs at HC bA S6 V6 X6 A6 HMX hX6
 simp only at HC bA S6 V6 X6 A6 HMX hX6 ⊢
 have y0 := (za X6).cell 0
 have y1 := (za X6).cell 1
 have y2 := (za X6).cell 2
 have y3 := (za X6).cell 3
 simp only [kGs] at y0 y1 y2 y3
 go_wp2_with fail
 generalize w5.alloc (.cells #[.slice i2 N2.length c2, .slice m2 M2.length mc2, .slice h2 H2.length hc2, .int .i64 x2] 28) = w6 at bA S6 V6 X6 A6 HC hX6 y0 y1 y2 y3 ⊢
 refine (za HC).mono ?_
 rintro e w7 ⟨⟨vg, T, rfl, owng, hrg⟩, b7⟩
 obtain ⟨ag, cg, rfl⟩ := Mem.zd4 owng.row
 rw [WMkR.zo1 hrg] at owng ⊢
 have bA8 : Below w7.heap.size w7 (w7.alloc (.cells #[.slice ag O.length cg, .int .i64 c] 46)) := (Below.refl _ _).alloc (Nat.le_refl _) _
 have b8 : Below w6.heap.size w6 (w7.alloc (.cells #[.slice ag O.length cg, .int .i64 c] 46)) := b7.alloc b7.size _
 have S8 := hide ((za S6).call b8)
 have V8 := hide ((za V6).call b8)
 have X8 := hide ((za X6).call b8)
 have A8 := hide ((za A6).call b8)
 have T8 : Below w5.heap.size w5 (w7.alloc (.cells #[.slice ag O.length cg, .int .i64 c] 46)) := bA.trans (b8.mono bA.size)
 have hX7 := b7.size
 have G8 : Hid (WMkR.G0 (w7.alloc (.cells #[.slice ag O.length cg, .int .i64 c] 46)) w7.heap.size w5.heap.size ag cg T O c) := ⟨Mem.Blk.new _ _ _, (owng.call bA8).mono (by omega), hrg, fun g hg => (owng.lt.1 g hg).2, fun x hx g hg => (owng.mem_lt x hx g hg).2, by omega⟩
 have HRG := hide hrg
 clear S6 V6 X6 A6 b8 b7 owng hrg HC bA bA8 y0 y1 y2 y3
 have d0 := (za S8).var.cell 0
 have d1 := (za S8).var.cell 1
 simp only [kGs] at d0 d1
 go_wp2_with fail
 generalize w7.alloc (.cells #[.slice ag O.length cg, .int .i64 c] 46) = w8 at S8 V8 X8 A8 T8 G8 d0 d1 ⊢
 refine (za heo ag aw cg cw c T U _ (za HRG) (za S8).reads (za G8).items (za S8).items).mono ?_
 rintro e v10 ⟨rfl, b9⟩
 have S9 := hide ((za S8).call b9)
 have V9 := hide ((za V8).call b9)
 have X9 := hide ((za X8).call b9)
 have A9 := hide ((za A8).call b9)
 have G9 := hide ((za G8).call b9)
 have TD : Below w5.heap.size w5 v10 := T8.trans (b9.mono T8.size)
 have hXG : w5.heap.size < w7.heap.size := by omega
 generalize w7.heap.size = G at G9 hX7 hXG ⊢
 clear S8 V8 X8 A8 G8 b9 d0 d1 T8 hX6 hX7
 have MK : Hid (∀ W', Below v10.heap.size v10 W' → (fun W' => Below v10.heap.size v10 W' ∧ W'.cell? ⟨w.heap.size, 0, none⟩ = some (Value.slice ia N.length ic) ∧ W'.cell? ⟨w.heap.size, 1, none⟩ = some (Value.slice ma M.length mc) ∧ W'.cell? ⟨w.heap.size, 2, none⟩ = some (Value.slice ha H.length hc) ∧ W'.cell? ⟨w.heap.size, 3, none⟩ = some (Value.int .i64 next) ∧ W'.cell? ⟨w5.heap.size, 0, none⟩ = some (Value.slice i2 N2.length c2) ∧ W'.cell? ⟨w5.heap.size, 1, none⟩ = some (Value.slice m2 M2.length mc2) ∧ W'.cell? ⟨w5.heap.size, 2, none⟩ = some (Value.slice h2 H2.length hc2) ∧ W'.cell? ⟨w5.heap.size, 3, none⟩ = some (Value.int .i64 x2)) W') := fun W' b => ⟨b, ((za V9).call b).cell 0, ((za V9).call b).cell 1, ((za V9).call b).cell 2, ((za V9).call b).cell 3, ((za X9).call b).cell 0, ((za X9).call b).cell 1, ((za X9).call b).cell 2, ((za X9).call b).cell 3⟩
 have bel10 := (za S9).bel
 go_upto_region 10 with fail
 refine wp_region_held_drew (S := fun W' => Below v10.heap.size v10 W' ∧ W'.cell? ⟨w.heap.size, 0, none⟩ = some (Value.slice ia N.length ic) ∧ W'.cell? ⟨w.heap.size, 1, none⟩ = some (Value.slice ma M.length mc) ∧ W'.cell? ⟨w.heap.size, 2, none⟩ = some (Value.slice ha H.length hc) ∧ W'.cell? ⟨w.heap.size, 3, none⟩ = some (Value.int .i64 next) ∧ W'.cell? ⟨w5.heap.size, 0, none⟩ = some (Value.slice i2 N2.length c2) ∧ W'.cell? ⟨w5.heap.size, 1, none⟩ = some (Value.slice m2 M2.length mc2) ∧ W'.cell? ⟨w5.heap.size, 2, none⟩ = some (Value.slice h2 H2.length hc2) ∧ W'.cell? ⟨w5.heap.size, 3, none⟩ = some (Value.int .i64 x2)) (by kernel_rfl) ?_ (fun hHeld => ?_)
 ·exact za MK _ ((Below.refl _ _).trans ⟨rfl, rfl, rfl, Nat.le_refl _, fun _ _ => rfl⟩)
 generalize v10.drew = D0 at hHeld ⊢
 refine tka (i := 0) rfl ?_
 try simp only [Act.put, kBs]
 refine tka (i := 1) rfl ?_
 try simp only [Act.put, kBs]
 refine wpAnyH_ready (rs := [2]) (by kernel_rfl) (by simp) ?_
 refine AllReadyH.cons rfl (fun K hK => ?_) AllReadyH.nil
 go_simp
 refine (za htt _ (bel10.trans (hHeld.1.mono bel10.size)) hk).mono ?_
 rintro e D1 ⟨⟨s3, rfl, T3⟩, bX⟩
 refine hK.out _ _ ?_ (fun hHeld => ?_)
 ·exact za MK _ (hHeld.1.trans (bX.mono hHeld.1.size))
 clear hK K bX
 try simp only [Act.put, kBs]
 refine wpAnyH_ready (rs := [3]) (by kernel_rfl) (by simp) ?_
 refine AllReadyH.cons rfl (fun K hK => ?_) AllReadyH.nil
 go_simp
 refine (za heq ⟨i2, c2, N2, m2, mc2, M2, h2, hc2, H2, x2⟩ s3 _ _ _ _ (za HT2) T3 hk _ (TD.trans (hHeld.1.mono TD.size)) (Below.refl _ _)).mono ?_
 rintro e D2 ⟨rfl, bX⟩
 refine hK.out _ _ ?_ (fun hHeld => ?_)
 ·exact za MK _ (hHeld.1.trans (bX.mono hHeld.1.size))
 clear hK K bX
 try simp only [Act.put, kBs]
 refine tka (i := 4) rfl ?_
 try simp only [Act.put, kBs]
 refine wpAnyH_done (by kernel_rfl) ?_ _
 have bF := hHeld.1
 clear hHeld
 have SA := hide ((za S9).call bF)
 have VA := hide ((za V9).call bF)
 have XA := hide ((za X9).call bF)
 have AA := hide ((za A9).call bF)
 have GA := hide ((za G9).call bF)
 clear S9 V9 X9 A9 G9 bF TD MK bel10 HT2 heq
 have y0 := (za XA).cell 0
 have y1 := (za XA).cell 1
 have y2 := (za XA).cell 2
 have y3 := (za XA).cell 3
 simp only [kGs] at y0 y1 y2 y3
 generalize w5.heap.size = X at GA hgh hXG hYX y0 y1 y2 y3 ⊢
 clear XA
 have HC := hide (za HMX _ (za AA))
 clear HMX
 go_wp2_with fail
 refine (za HC).mono ?_
 rintro e w11 ⟨⟨kk, rfl, hkk⟩, hb0⟩
 have hband : Mem.Band gi X _ w11 := ⟨hb0.os, hb0.tape, hb0.output, hb0.size, fun j hj hh => hb0.block j hj (by omega)⟩
 have S12 := hide ((za SA).band hband hgY)
 have G12 := hide ((za GA).band hband)
 have V12 := hide (hband.blk (za VA) (.inl (by omega)))
 have HK0 : ¬ ((kk : Nat) : Int) < 0 := by omega
 clear SA VA AA GA hb0 hband HC hkk y0 y1 y2 y3
 have d0 := (za S12).var.cell 0
 have d1 := (za S12).var.cell 1
 have e0 := (za G12).var.cell 0
 have e1 := (za G12).var.cell 1
 simp only [kGs] at d0 d1 e0 e1
 go_wp2_with fail
 refine (za heo ag aw cg cw c T U _ (za HRG) (za S12).reads (za G12).items (za S12).items).mono ?_
 rintro e w13 ⟨rfl, b13⟩
 have S13 := hide ((za S12).call b13)
 have V13 := hide ((za V12).call b13)
 have G14 := hide ((za G12).call b13)
 clear S12 V12 G12 b13 d0 d1 e0 e1
 have e0 := (za G14).var.cell 0
 have e1 := (za G14).var.cell 1
 simp only [kGs] at e0 e1
 go_wp2_with fail
 refine (za hmo ag cg X G c T _ (za G14)).mono ?_
 rintro e w15 ⟨rfl, M15, hb15⟩
 have S15 := hide ((za S13).band hb15 (by omega))
 have V15 := hide (hb15.blk (za V13) (.inl (by omega)))
 have HM0 : ¬ ((Pl.kAt 1 T O.length : Nat) : Int) < 0 := by omega
 clear S13 V13 G14 hb15 hmo e0 e1
 have e0 := M15.var.cell 0
 have e1 := M15.var.cell 1
 simp only [kGs] at e0 e1
 have M16 := hide M15
 clear M15
 have hh2 := hide (fun W h => za hho ag cg G c T W (za HRG) h)
 generalize Pl.kAt 1 T O.length = mm at HM0 hh2 ⊢
 clear hho
 go_wp2_with fail
 refine (za hh2 _ (za M16)).mono ?_
 rintro e w17 ⟨rfl, b17⟩
 have S17 := hide ((za S15).call b17)
 have V17 := hide ((za V15).call b17)
 have M17 := hide ((za M16).call b17)
 clear S15 V15 M16 b17 e0 e1
 have a0 := (za V17).cell 0
 have a1 := (za V17).cell 1
 have a2 := (za V17).cell 2
 have a3 := (za V17).cell 3
 simp only [kGs] at a0 a1 a2 a3
 go_wp2_with fail
 refine (za htt _ (za S17).bel hk).mono ?_
 rintro e w18 ⟨⟨s4, rfl, T4⟩, b18⟩
 have S18 := hide ((za S17).call b18)
 have M18 := hide ((za M17).call b18)
 have HC := hide (za hi s4 _ _ T4 hk _ (Below.refl _ _) ((za HE).call (za S18).bel))
 clear S17 V17 M17 b18 T4 a0 a1 a2 a3
 obtain ⟨i4, c4, N4, m4, mc4, M4, h4, hc4, H4, x4⟩ := s4
 unfold Pl.Sp.cs at HC
 simp only at HC ⊢
 go_wp2_with fail
 refine (za HC).mono ?_
 rintro e w19 ⟨⟨vh, V, rfl, ownh, hrh⟩, b19⟩
 obtain ⟨ah, ch, rfl⟩ := Mem.zd4 ownh.row
 rw [WMkR.zo1 hrh] at ownh ⊢
 have b20 : Below w19.heap.size w19 (w19.alloc (.cells #[.slice ah O.length ch, .int .i64 c] 46)) := (Below.refl _ _).alloc (Nat.le_refl _) _
 have S20 := hide (((za S18).call b19).call b20)
 have M20 := hide (((za M18).call b19).call b20)
 have OH := hide (ownh.call (W' := w19.alloc (.cells #[.slice ah O.length ch, .int .i64 c] 46)) ((Below.refl _ _).alloc (Nat.le_refl _) _)).items.2
 have HRH := hide hrh
 clear S18 M18 b19 b20 ownh hrh HC
 have d0 := (za S20).var.cell 0
 have d1 := (za S20).var.cell 1
 simp only [kGs] at d0 d1
 go_wp2_with fail
 refine (za heo ah aw ch cw c V U _ (za HRH) (za S20).reads (za OH) (za S20).items).mono ?_
 rintro e w21 ⟨rfl, b21⟩
 have S21 := hide ((za S20).call b21)
 have M21 := hide ((za M20).call b21)
 clear S20 M20 b21 d0 d1 OH
 have e0 := (za M21).var.cell 0
 have e1 := (za M21).var.cell 1
 simp only [kGs] at e0 e1
 go_wp2_with fail
 refine (za hh2 _ (za M21)).mono ?_
 rintro e w22 ⟨rfl, b22⟩
 have bfin := ((za S21).call b22).bel
 clear S21 M21 b22 e0 e1
 go_wp2
 go_ret
 exact ⟨rfl, bfin⟩
end fnExactNestOf
end Go.Proofs.YtlgbdbmikmbioaaGreatDoor
