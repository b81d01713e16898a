/- Several texts of one claim in one file: WSpS9, WMkJ, WMkX, WHdZ. -/
import Derived.Test.YtonffldjbmednaaGreatDoorG34
import Derived.Test.YtonffldjbmednaaGreatDoorPlainAns8
import Derived.Test.YtonffldjbmednaaGreatDoorG43
import Derived.Test.YtonffldjbmednaaGreatDoorWSpS8
import Derived.Test.YtonffldjbmednaaGreatDoorWCp8
import Derived.Test.YtonffldjbmednaaGreatDoorG04
import Derived.Test.YtonffldjbmednaaGreatDoorG30
import Derived.Test.YtonffldjbmednaaGreatDoorG33
import Derived.Test.YtonffldjbmednaaGreatDoorG05
import Derived.Test.YtonffldjbmednaaGreatDoorPlainMkZ
import Derived.Deep.Cut
set_option linter.unusedSimpArgs false
namespace Go.Proofs.YtonffldjbmednaaGreatDoor
open Go.RowKit
namespace WSp
def begC (p : ByteArray) (R : Bool) : Int := if Pl.whyI p R = 0 then 0 else if Pl.whyI p R = 1 then 2 else 1
set_option maxRecDepth 100000 in
set_option maxHeartbeats 1000000 in
theorem begin_any (s : Pl.Sp) (p : ByteArray) (w : World) (hp : p.size ≤ 1048576) (hok : za9.OkS s 1048576) (hv : Mem.zd3 w s) :
  Calls Tryz.prog 25 #[.agg s.cs, .string p] w fun e w' => e = .returned (.int .i64 (begC p (Pl.zd1 s.next (s.N.map nr) s.M s.H Pl.wayB))) ∧ Below w.heap.size w w' := by
 have HX := hide (fun W (b : Below w.heap.size w W) => ze7 s W hok (hv.call b))
 have HR := hide (fun W => zg3.zt6 p W hp)
 generalize Pl.zd1 s.next (s.N.map nr) s.M s.H Pl.wayB = R at HX ⊢
 clear hok hv
 obtain ⟨ia, ic, N, ma, mc, M, ha, hc, H, next⟩ := s
 unfold Pl.Sp.cs at HX ⊢
 simp only at HX ⊢
 have b0 := (Below.refl w.heap.size w).alloc (o := .cells #[Value.slice ia N.length ic, Value.slice ma M.length mc, Value.slice ha H.length hc, Value.int .i64 next] 32) (Nat.le_refl _)
 have V0 := hide (Mem.Blk.new w #[Value.slice ia N.length ic, Value.slice ma M.length mc, Value.slice ha H.length hc, Value.int .i64 next] 32)
 by_cases hl : 8000 < p.size
 ·have HW : Hid (begC p R = 2) := hide (by unfold begC Pl.whyI; rw [if_pos hl]; rfl)
  have l1 : (8000 : Int) < (p.size : Int) := by omega
  clear HX HR
  go_enter Tryz.func25, Tryz.ntmps25
  go_wp2
  go_ret
  exact ⟨by rw [za HW]; rfl, b0⟩
 have l1 : ¬ (8000 : Int) < (p.size : Int) := by omega
 have HWn : Hid ((R && Pl.za1 p) = false → begC p R = 1) := hide (fun h => by unfold begC Pl.whyI; rw [if_neg hl, h]; rfl)
 have HWy : Hid ((R && Pl.za1 p) = true → begC p R = 0) := hide (fun h => by unfold begC Pl.whyI; rw [if_neg hl, h]; rfl)
 generalize begC p R = C at HWn HWy ⊢
 generalize Pl.za1 p = pb at HR HWn HWy
 have a0 := (za V0).cell 0
 have a1 := (za V0).cell 1
 have a2 := (za V0).cell 2
 have a3 := (za V0).cell 3
 simp only [kGs] at a0 a1 a2 a3
 go_enter Tryz.func25, Tryz.ntmps25
 go_wp2_with fail
 generalize w.alloc (.cells #[Value.slice ia N.length ic, Value.slice ma M.length mc, Value.slice ha H.length hc, Value.int .i64 next] 32) = wA at b0 V0 a0 a1 a2 a3 ⊢
 refine (za HX _ b0).mono ?_
 rintro e w1 ⟨rfl, bX⟩
 have b1 := b0.trans (bX.mono b0.size)
 clear HX bX V0 a0 a1 a2 a3 b0
 cases R
 ·have HW := hide (za HWn rfl)
  clear HWn HWy HR
  go_wp2
  go_ret
  exact ⟨by rw [za HW]; rfl, b1⟩
 go_wp2_with fail
 refine (za HR _).mono ?_
 rintro e w2 ⟨rfl, bX⟩
 have b2 := b1.trans (bX.mono b1.size)
 clear HR bX b1
 cases pb
 ·have HW := hide (za HWn rfl)
  clear HWn HWy
  go_wp2
  go_ret
  exact ⟨by rw [za HW]; rfl, b2⟩
 ·have HW := hide (za HWy rfl)
  clear HWn HWy
  go_wp2
  go_ret
  exact ⟨by rw [za HW]; rfl, b2⟩
set_option maxRecDepth 100000 in
set_option maxHeartbeats 1000000 in
theorem ill_any (c : Int) (w : World) :
  Calls Tryz.prog 26 #[.int .i64 c] w fun e w' => e = .returned (.agg #[.slice none 0 0, .slice none 0 0, .slice none 0 0, .int .i64 0, .int .i64 0, .string ⟨#[]⟩, .int .i64 c]) ∧ Below w.heap.size w w' := by
 have b0 := (Below.refl w.heap.size w).alloc (o := .cells #[Value.slice none 0 0, Value.slice none 0 0, Value.slice none 0 0, Value.int .i64 0, Value.int .i64 0, Value.string ⟨#[]⟩, Value.int .i64 0] 34) (Nat.le_refl _)
 have V0 := hide (Mem.Blk.new w #[Value.slice none 0 0, Value.slice none 0 0, Value.slice none 0 0, Value.int .i64 0, Value.int .i64 0, Value.string ⟨#[]⟩, Value.int .i64 0] 34)
 go_enter Tryz.func26, Tryz.ntmps26
 go_upto_region 1 with fail
 generalize w.alloc (.cells #[Value.slice none 0 0, Value.slice none 0 0, Value.slice none 0 0, Value.int .i64 0, Value.int .i64 0, Value.string ⟨#[]⟩, Value.int .i64 0] 34) = wA at b0 V0 ⊢
 have d0 := (za V0).cell 0
 have f0 := (za V0).fr 0
 have d1 := (za V0).cell 1
 have f1 := (za V0).fr 1
 have d2 := (za V0).cell 2
 have f2 := (za V0).fr 2
 have d3 := (za V0).cell 3
 have f3 := (za V0).fr 3
 have d4 := (za V0).cell 4
 have f4 := (za V0).fr 4
 have d5 := (za V0).cell 5
 have f5 := (za V0).fr 5
 have d6 := (za V0).cell 6
 have f6 := (za V0).fr 6
 simp only [kGs] at d0 d1 d2 d3 d4 d5 d6
 go_wp2
 refine bodyPost_ret (v := .agg #[Value.slice none 0 0, Value.slice none 0 0, Value.slice none 0 0, Value.int .i64 0, Value.int .i64 0, Value.string ⟨#[]⟩, Value.int .i64 c]) (by simp [results, Tryz.results26, go_sem, d0, d1, d2, d3, d4, d5, d6]) rfl ⟨rfl, ?_⟩
 exact (((((((b0).setCell (p := ⟨w.heap.size, 0, none⟩) (by show w.heap.size ≤ w.heap.size; omega) (Value.slice none 0 0)).setCell (p := ⟨w.heap.size, 1, none⟩) (by show w.heap.size ≤ w.heap.size; omega) (Value.slice none 0 0)).setCell (p := ⟨w.heap.size, 2, none⟩) (by show w.heap.size ≤ w.heap.size; omega) (Value.slice none 0 0)).setCell (p := ⟨w.heap.size, 3, none⟩) (by show w.heap.size ≤ w.heap.size; omega) (Value.int .i64 0)).setCell (p := ⟨w.heap.size, 4, none⟩) (by show w.heap.size ≤ w.heap.size; omega) (Value.int .i64 0)).setCell (p := ⟨w.heap.size, 5, none⟩) (by show w.heap.size ≤ w.heap.size; omega) (Value.string ⟨#[]⟩)).setCell (p := ⟨w.heap.size, 6, none⟩) (by show w.heap.size ≤ w.heap.size; omega) (Value.int .i64 c)
theorem _root_.Go.Proofs.YtonffldjbmednaaGreatDoor.WCp8.Cpd.far {w W : World} {s u : Pl.Sp} {S1 Y : Nat} {lo hi : Nat → Nat} (h : WCp8.Cpd w W s u S1 lo hi) (k : Nat) (v : Value) (hY : Y < w.heap.size) : WCp8.Cpd w (W.setCell ⟨Y, k, none⟩ v) s u S1 lo hi :=
 ⟨h.n, h.m, h.h, h.x, h.s1, h.iz.far k v (Nat.lt_of_lt_of_le hY h.s1), Mem.ze h.om _ _ (fun g hg => by have := (Mem.zh3 h.om g hg).1; show Y ≠ g; omega), Mem.ze h.oh _ _ (fun g hg => by have := (Mem.zh3 h.oh g hg).1; show Y ≠ g; omega), h.hm, h.hh, h.ne⟩
set_option maxRecDepth 100000 in
set_option maxHeartbeats 4000000 in
theorem whereF_any (s : Pl.Sp) (p : ByteArray) (w : World) (hp : p.size ≤ 1048576) (hok : za9.OkS s 1048576) (hv : Mem.zd3 w s) (hma : ∃ g, s.ma = some ⟨g, 0, none⟩) (hha : ∃ g, s.ha = some ⟨g, 0, none⟩) (hrow : ∀ x ∈ s.N, (∃ g, x.a = some ⟨g, 0, none⟩) ∧ ∀ t ∈ x.Is, Mem.okR t.t.a t.t.cap t.t.L)
  (A : Pl.Ao) (hA : Pl.whereA s p (Pl.zd1 s.next (s.N.map WSp.nr) s.M s.H Pl.wayB) = A) :
  Calls Tryz.prog 8 #[.agg s.cs, .string p] w fun e w' => (∃ u, e = .returned (.agg (WSpO.so u A.d A.p A.c)) ∧ Mem.zd3 w' u ∧ Pl.Fits u A) ∧ Below w.heap.size w w' := by
 generalize hlm : Pl.leadI (Pl.uR p) s.M s.M.length = m
 have HX := hide (fun W (b : Below w.heap.size w W) => begin_any s p W hp hok (hv.call b))
 have HIL := hide ill_any
 have HSM := hide (fun (h : Pl.zd1 s.next (s.N.map WSp.nr) s.M s.H Pl.wayB = true) => Pl.space_small h)
 have HLD := hide (fun (h : Pl.zd1 s.next (s.N.map WSp.nr) s.M s.H Pl.wayB = true) (h2 : Pl.za1 p = true) => by
  have h3 := Pl.lead_of h p h2
  rw [hlm] at h3
  exact h3)
 generalize HQ : Pl.zd1 s.next (s.N.map WSp.nr) s.M s.H Pl.wayB = RB at HX HSM HLD hA ⊢
 have hRB : Pl.whyI p RB = 0 → RB = true ∧ Pl.za1 p = true := fun h => by
  unfold Pl.whyI at h
  split at h
  ·cases h
  ·split at h
   ·rename_i h9
    simpa using h9
   ·cases h
 have HCP := hide (fun (h : Pl.whyI p RB = 0) W (b : Below w.heap.size w W) => by
  obtain ⟨k1, k2, k3, k4, k5, k6, -⟩ := za HSM (hRB h).1
  exact WCp8.copy_any s W (hv.call b) (by obtain ⟨g, h⟩ := hma; exact ⟨g, 0, h⟩) (by obtain ⟨g, h⟩ := hha; exact ⟨g, 0, h⟩) k2 k3 k1 (fun x hx => ⟨(k4 x hx).1, (k4 x hx).2.1, fun t ht => by have := (k4 x hx).2.2 t ht; omega, (hrow x hx).1, (hrow x hx).2⟩))
 have HWH := hide (fun (h : Pl.whyI p RB = 0) W (b : Below w.heap.size w W) => by
  obtain ⟨k1, k2, -⟩ := za HSM (hRB h).1
  obtain ⟨j1, j2, j3, -⟩ := za HLD (hRB h).1 (hRB h).2
  exact where_any s p W hp hok.mp (by omega) (hv.call b) m j1 j3)
 have HAG : Hid (Pl.whyI p RB = 0 → A = ⟨s.N.map Pl.Ns.r, s.M, s.H, s.next, m.i, Pl.rest p m.p, 0⟩) := hide (fun h => by rw [← hA]; unfold Pl.whereA; rw [if_pos h, hlm])
 have HAB : Hid (Pl.whyI p RB ≠ 0 → ∃ (c : Int), begC p RB = c ∧ c ≠ 0 ∧ A = Pl.Ao.ill c) := hide (fun h => by
  refine ⟨_, rfl, ?_, ?_⟩
  ·unfold begC
   rw [if_neg h]
   split <;> decide
  ·rw [← hA]
   unfold Pl.whereA begC
   rw [if_neg h, if_neg h])
 clear hok hv hlm hA HSM HQ hp hRB hma hha hrow HLD
 generalize Pl.rest p m.p = RT at HWH HAG ⊢
 obtain ⟨ia, ic, N, ma, mc, M, ha, hc, H, next⟩ := s
 simp only at HX HCP HAG HWH ⊢
 unfold Pl.Sp.cs at HX HCP HWH ⊢
 simp only at HX HCP HWH ⊢
 have b0 : Below w.heap.size w ((w.alloc (.cells #[Value.slice ia N.length ic, Value.slice ma M.length mc, Value.slice ha H.length hc, Value.int .i64 next] 32)).alloc (.cells #[Value.slice none 0 0, Value.slice none 0 0, Value.slice none 0 0, Value.int .i64 0, Value.int .i64 0, Value.string ⟨#[]⟩, Value.int .i64 0] 34)) := ((Below.refl _ _).alloc (Nat.le_refl _) _).alloc (by simp) _
 have V0 := hide ((Mem.Blk.new w #[Value.slice ia N.length ic, Value.slice ma M.length mc, Value.slice ha H.length hc, Value.int .i64 next] 32).alloc (.cells #[Value.slice none 0 0, Value.slice none 0 0, Value.slice none 0 0, Value.int .i64 0, Value.int .i64 0, Value.string ⟨#[]⟩, Value.int .i64 0] 34))
 have U0 := hide (Mem.Blk.new (w.alloc (.cells #[Value.slice ia N.length ic, Value.slice ma M.length mc, Value.slice ha H.length hc, Value.int .i64 next] 32)) #[Value.slice none 0 0, Value.slice none 0 0, Value.slice none 0 0, Value.int .i64 0, Value.int .i64 0, Value.string ⟨#[]⟩, Value.int .i64 0] 34)
 rw [show (w.alloc (.cells #[Value.slice ia N.length ic, Value.slice ma M.length mc, Value.slice ha H.length hc, Value.int .i64 next] 32)).heap.size = w.heap.size + 1 by simp] at U0
 have a0 := (za V0).cell 0
 have a1 := (za V0).cell 1
 have a2 := (za V0).cell 2
 have a3 := (za V0).cell 3
 simp only [kGs] at a0 a1 a2 a3
 go_enter Tryz.func8, Tryz.ntmps8
 go_wp2_with fail
 generalize (w.alloc (.cells #[Value.slice ia N.length ic, Value.slice ma M.length mc, Value.slice ha H.length hc, Value.int .i64 next] 32)).alloc (.cells #[Value.slice none 0 0, Value.slice none 0 0, Value.slice none 0 0, Value.int .i64 0, Value.int .i64 0, Value.string ⟨#[]⟩, Value.int .i64 0] 34) = wA at b0 V0 U0 a0 a1 a2 a3 ⊢
 refine (za HX _ b0).mono ?_
 rintro e w1 ⟨rfl, bX⟩
 have b1 := b0.trans (bX.mono b0.size)
 have U1 := hide ((za U0).call bX)
 have V1 := hide ((za V0).call bX)
 clear HX bX V0 a0 a1 a2 a3 b0 U0
 by_cases h0 : Pl.whyI p RB = 0
 ·skip
  have HA : Hid (A = ⟨N.map Pl.Ns.r, M, H, next, m.i, RT, 0⟩) := hide (za HAG h0)
  have HCO := hide (za HCP h0)
  have HLW := hide (za HWH h0)
  have hbc : begC p RB = 0 := by unfold begC; rw [if_pos h0]
  rw [hbc]
  clear HAG HAB HIL HCP HWH hbc
  have a0 := (za V1).cell 0
  have a1 := (za V1).cell 1
  have a2 := (za V1).cell 2
  have a3 := (za V1).cell 3
  simp only [kGs] at a0 a1 a2 a3
  go_wp2_with fail
  refine (za HLW _ b1).mono ?_
  rintro e w3 ⟨rfl, bX⟩
  have b3 := b1.trans (bX.mono b1.size)
  have V3 := hide ((za V1).call bX)
  have U3 := hide ((za U1).call bX)
  clear V1 U1 b1 bX a0 a1 a2 a3 HLW
  have b4 : Below w3.heap.size w3 (w3.alloc (.cells #[Value.string m.p, Value.int .i64 m.i, Value.bool m.z] 50)) := (Below.refl _ _).alloc (Nat.le_refl _) _
  have X4 := hide (Mem.Blk.new w3 #[Value.string m.p, Value.int .i64 m.i, Value.bool m.z] 50)
  have V4 := hide ((za V3).call b4)
  have U4 := hide ((za U3).call b4)
  have b5 := b3.trans (b4.mono b3.size)
  have hX : w.heap.size + 1 < w3.heap.size := (za U3).lt
  clear V3 U3 b3 b4
  go_upto_region 5 with fail
  generalize w3.alloc (.cells #[Value.string m.p, Value.int .i64 m.i, Value.bool m.z] 50) = w4 at b5 U4 X4 V4 ⊢
  generalize w3.heap.size = X at X4 hX ⊢
  have BD : Below w4.heap.size w4 w4.drew := ⟨rfl, rfl, rfl, Nat.le_refl _, fun _ _ => rfl⟩
  have U := (za U4).call BD
  have XX := (za X4).call BD
  have VV := (za V4).call BD
  have bel := b5.trans (BD.mono b5.size)
  have MK : Hid (∀ W', Below w.heap.size w W' → Mem.Blk W' w.heap.size #[Value.slice ia N.length ic, Value.slice ma M.length mc, Value.slice ha H.length hc, Value.int .i64 next] 32 → Mem.Blk W' X #[Value.string m.p, Value.int .i64 m.i, Value.bool m.z] 50 → (Below w.heap.size w W' ∧ W'.cell? ⟨w.heap.size, 0, none⟩ = some (Value.slice ia N.length ic) ∧ W'.cell? ⟨w.heap.size, 1, none⟩ = some (Value.slice ma M.length mc) ∧ W'.cell? ⟨w.heap.size, 2, none⟩ = some (Value.slice ha H.length hc) ∧ W'.cell? ⟨w.heap.size, 3, none⟩ = some (Value.int .i64 next) ∧ W'.cell? ⟨X, 1, none⟩ = some (Value.int .i64 m.i))) := fun W' b y z => ⟨b, y.cell 0, y.cell 1, y.cell 2, y.cell 3, z.cell 1⟩
  clear U4 X4 V4 BD b5 h0
  go_wp2_with fail
  refine wp_region_held_drew (S := fun W' => Below w.heap.size w W' ∧ W'.cell? ⟨w.heap.size, 0, none⟩ = some (Value.slice ia N.length ic) ∧ W'.cell? ⟨w.heap.size, 1, none⟩ = some (Value.slice ma M.length mc) ∧ W'.cell? ⟨w.heap.size, 2, none⟩ = some (Value.slice ha H.length hc) ∧ W'.cell? ⟨w.heap.size, 3, none⟩ = some (Value.int .i64 next) ∧ W'.cell? ⟨X, 1, none⟩ = some (Value.int .i64 m.i)) (by kernel_rfl) ?_ (fun hHeld => ?_)
  ·exact za MK _ bel VV XX
  generalize w4.drew = D0 at hHeld U XX VV bel ⊢
  refine tka (i := 0) rfl ?_
  try simp only [Act.put, kBs]
  refine tka (i := 2) rfl ?_
  try simp only [Act.put, kBs]
  refine tka (i := 3) rfl ?_
  try simp only [Act.put, kBs]
  refine tka (i := 4) rfl ?_
  try simp only [Act.put, kBs]
  refine wpAnyH_ready (rs := [1]) (by kernel_rfl) (by simp) ?_
  refine AllReadyH.cons rfl (fun K hK => ?_) AllReadyH.nil
  have hDX := XX.lt
  go_simp
  refine (za HCO _ bel).mono ?_
  rintro e wX ⟨⟨u, rfl, S1, lo, hi, HTD⟩, bX⟩
  replace U := U.call bX
  replace XX := XX.call bX
  replace VV := VV.call bX
  replace bel := bel.trans (bX.mono bel.size)
  clear bX HCO
  obtain ⟨ui, uc, uN, um, umc, uM, uh, uhc, uH, ux⟩ := u
  simp only at HTD ⊢
  refine hK.out _ _ ?_ (fun hHeld => ?_)
  ·exact za MK _ bel VV XX
  clear hK K
  try simp only [Act.put, kBs]
  refine tka (i := 5) rfl ?_
  try simp only [Act.put, kBs]
  refine wpAnyH_ready (rs := [6]) (by kernel_rfl) (by simp) ?_
  refine AllReadyH.cons rfl (fun K hK => ?_) AllReadyH.nil
  have d0 := (U).cell 0
  have f0 := (U).fr 0
  have d1 := (U).cell 1
  have f1 := (U).fr 1
  have d2 := (U).cell 2
  have f2 := (U).fr 2
  have d3 := (U).cell 3
  have f3 := (U).fr 3
  have d4 := (U).cell 4
  have f4 := (U).fr 4
  have d5 := (U).cell 5
  have f5 := (U).fr 5
  have d6 := (U).cell 6
  have f6 := (U).fr 6
  simp only [kGs] at d0 d1 d2 d3 d4 d5 d6
  go_simp
  clear d0 d1 d2 d3 d4 d5 d6 f0 f1 f2 f3 f4 f5 f6
  replace U := (((((((U).put 0 (Value.slice ui uN.length uc)).put 1 (Value.slice um uM.length umc)).put 2 (Value.slice uh uH.length uhc)).put 3 (Value.int .i64 ux)).put 4 (Value.int .i64 m.i)).put 5 (Value.string RT)).put 6 (Value.int .i64 0)
  replace XX := (((((((XX).far ⟨w.heap.size + 1, 0, none⟩ (Value.slice ui uN.length uc) (by show X ≠ w.heap.size + 1; omega)).far ⟨w.heap.size + 1, 1, none⟩ (Value.slice um uM.length umc) (by show X ≠ w.heap.size + 1; omega)).far ⟨w.heap.size + 1, 2, none⟩ (Value.slice uh uH.length uhc) (by show X ≠ w.heap.size + 1; omega)).far ⟨w.heap.size + 1, 3, none⟩ (Value.int .i64 ux) (by show X ≠ w.heap.size + 1; omega)).far ⟨w.heap.size + 1, 4, none⟩ (Value.int .i64 m.i) (by show X ≠ w.heap.size + 1; omega)).far ⟨w.heap.size + 1, 5, none⟩ (Value.string RT) (by show X ≠ w.heap.size + 1; omega)).far ⟨w.heap.size + 1, 6, none⟩ (Value.int .i64 0) (by show X ≠ w.heap.size + 1; omega)
  replace VV := (((((((VV).far ⟨w.heap.size + 1, 0, none⟩ (Value.slice ui uN.length uc) (by show w.heap.size ≠ w.heap.size + 1; omega)).far ⟨w.heap.size + 1, 1, none⟩ (Value.slice um uM.length umc) (by show w.heap.size ≠ w.heap.size + 1; omega)).far ⟨w.heap.size + 1, 2, none⟩ (Value.slice uh uH.length uhc) (by show w.heap.size ≠ w.heap.size + 1; omega)).far ⟨w.heap.size + 1, 3, none⟩ (Value.int .i64 ux) (by show w.heap.size ≠ w.heap.size + 1; omega)).far ⟨w.heap.size + 1, 4, none⟩ (Value.int .i64 m.i) (by show w.heap.size ≠ w.heap.size + 1; omega)).far ⟨w.heap.size + 1, 5, none⟩ (Value.string RT) (by show w.heap.size ≠ w.heap.size + 1; omega)).far ⟨w.heap.size + 1, 6, none⟩ (Value.int .i64 0) (by show w.heap.size ≠ w.heap.size + 1; omega)
  replace HTD := (((((((HTD).far (Y := w.heap.size + 1) 0 (Value.slice ui uN.length uc) (by omega)).far (Y := w.heap.size + 1) 1 (Value.slice um uM.length umc) (by omega)).far (Y := w.heap.size + 1) 2 (Value.slice uh uH.length uhc) (by omega)).far (Y := w.heap.size + 1) 3 (Value.int .i64 ux) (by omega)).far (Y := w.heap.size + 1) 4 (Value.int .i64 m.i) (by omega)).far (Y := w.heap.size + 1) 5 (Value.string RT) (by omega)).far (Y := w.heap.size + 1) 6 (Value.int .i64 0) (by omega)
  replace bel := (((((((bel).setCell (p := ⟨w.heap.size + 1, 0, none⟩) (by show w.heap.size ≤ w.heap.size + 1; omega) (Value.slice ui uN.length uc)).setCell (p := ⟨w.heap.size + 1, 1, none⟩) (by show w.heap.size ≤ w.heap.size + 1; omega) (Value.slice um uM.length umc)).setCell (p := ⟨w.heap.size + 1, 2, none⟩) (by show w.heap.size ≤ w.heap.size + 1; omega) (Value.slice uh uH.length uhc)).setCell (p := ⟨w.heap.size + 1, 3, none⟩) (by show w.heap.size ≤ w.heap.size + 1; omega) (Value.int .i64 ux)).setCell (p := ⟨w.heap.size + 1, 4, none⟩) (by show w.heap.size ≤ w.heap.size + 1; omega) (Value.int .i64 m.i)).setCell (p := ⟨w.heap.size + 1, 5, none⟩) (by show w.heap.size ≤ w.heap.size + 1; omega) (Value.string RT)).setCell (p := ⟨w.heap.size + 1, 6, none⟩) (by show w.heap.size ≤ w.heap.size + 1; omega) (Value.int .i64 0)
  refine hK.out _ _ ?_ (fun hHeld => ?_)
  ·exact za MK _ bel VV XX
  clear hK K
  try simp only [Act.put, kBs]
  refine wpAnyH_done (by kernel_rfl) ?_ _
  have d0 := U.cell 0
  have d1 := U.cell 1
  have d2 := U.cell 2
  have d3 := U.cell 3
  have d4 := U.cell 4
  have d5 := U.cell 5
  have d6 := U.cell 6
  simp only [kB3, kB4, kB5, kGs] at d0 d1 d2 d3 d4 d5 d6
  go_wp2
  refine bodyPost_ret (v := .agg #[Value.slice ui uN.length uc, Value.slice um uM.length umc, Value.slice uh uH.length uhc, Value.int .i64 ux, Value.int .i64 m.i, Value.string RT, Value.int .i64 0]) (by simp [results, Tryz.results8, go_sem, d0, d1, d2, d3, d4, d5, d6]) rfl ⟨⟨_, by rw [za HA]; rfl, HTD.space, by rw [za HA]; exact ⟨HTD.n, HTD.m, HTD.h, HTD.x⟩⟩, bel⟩
 ·skip
  obtain ⟨c, hbc, hc0, hA⟩ := za HAB h0
  have HA := hide hA
  rw [hbc]
  have z1 : ¬ (c = 0) := hc0
  have z2 : (c == 0) = false := by simpa using z1
  have z3 : decide (c = 0) = false := by simpa using z1
  clear HAG HAB HCP HWH hA h0 V1 hbc
  go_wp2_with fail
  refine (za HIL c _).mono ?_
  rintro e w3 ⟨rfl, bX⟩
  have b4 := b1.trans (bX.mono b1.size)
  have U3 := hide ((za U1).call bX)
  clear b1 U1 bX HIL
  have d0 := (za U3).cell 0
  have f0 := (za U3).fr 0
  have d1 := (za U3).cell 1
  have f1 := (za U3).fr 1
  have d2 := (za U3).cell 2
  have f2 := (za U3).fr 2
  have d3 := (za U3).cell 3
  have f3 := (za U3).fr 3
  have d4 := (za U3).cell 4
  have f4 := (za U3).fr 4
  have d5 := (za U3).cell 5
  have f5 := (za U3).fr 5
  have d6 := (za U3).cell 6
  have f6 := (za U3).fr 6
  simp only [kGs] at d0 d1 d2 d3 d4 d5 d6
  go_wp2
  refine bodyPost_ret (v := .agg #[Value.slice none 0 0, Value.slice none 0 0, Value.slice none 0 0, Value.int .i64 0, Value.int .i64 0, Value.string ⟨#[]⟩, Value.int .i64 c]) (by simp [results, Tryz.results8, go_sem, d0, d1, d2, d3, d4, d5, d6]) rfl ⟨⟨⟨none, 0, [], none, 0, [], none, 0, [], 0⟩, by rw [za HA]; rfl, ⟨Mem.insts_nil _ _, Mem.mounts_nil _ _, Mem.hands_nil _ _⟩, by rw [za HA]; exact Pl.Fits.nil c⟩, ?_⟩
  exact (((((((b4).setCell (p := ⟨w.heap.size + 1, 0, none⟩) (by show w.heap.size ≤ w.heap.size + 1; omega) (Value.slice none 0 0)).setCell (p := ⟨w.heap.size + 1, 1, none⟩) (by show w.heap.size ≤ w.heap.size + 1; omega) (Value.slice none 0 0)).setCell (p := ⟨w.heap.size + 1, 2, none⟩) (by show w.heap.size ≤ w.heap.size + 1; omega) (Value.slice none 0 0)).setCell (p := ⟨w.heap.size + 1, 3, none⟩) (by show w.heap.size ≤ w.heap.size + 1; omega) (Value.int .i64 0)).setCell (p := ⟨w.heap.size + 1, 4, none⟩) (by show w.heap.size ≤ w.heap.size + 1; omega) (Value.int .i64 0)).setCell (p := ⟨w.heap.size + 1, 5, none⟩) (by show w.heap.size ≤ w.heap.size + 1; omega) (Value.string ⟨#[]⟩)).setCell (p := ⟨w.heap.size + 1, 6, none⟩) (by show w.heap.size ≤ w.heap.size + 1; omega) (Value.int .i64 c)
end WSp
end Go.Proofs.YtonffldjbmednaaGreatDoor

namespace Go.Proofs.YtonffldjbmednaaGreatDoor
open Go.RowKit
namespace WMkJ
set_option linter.unusedSimpArgs false in
set_option maxRecDepth 100000 in
set_option maxHeartbeats 1000000 in
theorem mark_from (K0 g X cap : Nat) (D : List Pl.It) (w : World) (hK0 : 0 < K0) (hK1 : K0 + 5242881 * D.length ≤ 8000000000000000000) (hl : D.length ≤ 1048576) (hok : ∀ t ∈ D, t.t.L.length ≤ 1048576) (hv : Has w g X D) :
  Calls Tryz.prog 74 #[.slice (some ⟨g, 0, none⟩) D.length cap, .int .i64 (K0 : Int)] w fun e w' => (∃ K : Nat, e = .returned (.int .i64 (K : Int)) ∧ K0 ≤ K ∧ K ≤ K0 + 5242881 * D.length) ∧ Mem.Band g X w w' := by
 have HO := hide hok
 have HV := hide hv
 clear hok hv
 go_enter Tryz.func74, Tryz.ntmps74
 go_wp2
 go_loopw [1, 5] (fun a i wr => ∃ (j K : Nat), j ≤ D.length ∧ i = .int .i64 (j : Int) ∧ a = .int .i64 (K : Int) ∧ (K0 ≤ K ∧ K ≤ K0 + 5242881 * j) ∧ Hid (Has wr g X D ∧ Mem.Band g X w wr)) (fun _ i _ => D.length - (intOf i).toNat)
 case atStart => exact ⟨0, K0, Nat.zero_le _, rfl, rfl, by omega, ⟨za HV, Mem.Band.refl _ _ _⟩⟩
 case round =>
  obtain ⟨j, K, hj, rfl, rfl, hK, HA⟩ := hrel
  by_cases hlt : j < D.length
  ·obtain ⟨t, ht⟩ : ∃ t, D[j]? = some t := ⟨_, List.getElem?_eq_getElem hlt⟩
   have htl := za HO t (List.mem_of_getElem? ht)
   have HS := hide ((za HA).1.many (i := j) (.int .i64 (K : Int)))
   have BS := hide ((za HA).2.trans (Mem.Band.of_set (w := wr) ⟨g, j * 2, none⟩ (.int .i64 (K : Int)) (Nat.le_refl _) (za HA).1.gx))
   have c1 := (za HS).cell j t ht
   obtain ⟨q, h1, h2, h3, cs, h4, h5⟩ := (za HS).each j t ht
   obtain ⟨cur, hb1, hb2⟩ := (za HA).1.blk
   obtain ⟨x0, s0⟩ : ∃ x, wr.cell? ⟨g, j * 2, none⟩ = some x := ⟨_, (cell_of_row wr _ (j * 2) _ _ (0, 0) hb1).trans (Array.getElem?_eq_getElem (by omega))⟩
   have f0 : wr.frozen? ⟨g, j * 2, none⟩ = false := Mem.za6 hb1
   obtain ⟨tm, ta, tc, tL⟩ := t
   simp only at h1 h5 htl
   subst h1
   simp only [Pl.Tr.val] at c1
   have hm := hide (zf7.lay_any q tL.length tc (K + 1) cs (wr.setCell ⟨g, j * 2, none⟩ (.int .i64 (K : Int))) htl (by omega) (by omega) h4 h5)
   have H4 := hide h4
   have u1 : (j : Int) < (D.length : Int) := by omega
   have u3 : (0 : Int) ≤ (j : Int) := by omega
   have eK : ((K + 1 : Nat) : Int) = (K : Int) + 1 := by omega
   rw [eK] at hm
   clear h4 h5 ht HA hb1 hb2
   go_wp2_with fail
   refine (za hm).mono ?_
   rintro e w2 ⟨rfl, ⟨cur', hr', hs'⟩, -, hg⟩
   have HB : Hid (Has w2 g X D ∧ Mem.Band g X w w2) := ⟨(za HS).marked h2 (za H4) hr' hs' hg, (za BS).trans (Mem.Band.zq7 hg (by omega) h3)⟩
   clear HS BS hm H4 hr' hs' hg c1 s0 f0
   generalize hK2 : K + 1 + 5 * tL.length = K2
   have hK3 : K0 ≤ K2 ∧ K2 ≤ K0 + 5242881 * (j + 1) := by omega
   clear hK2 hK htl
   go_wp2
   go_roundw
   case rel => exact ⟨j + 1, K2, by omega, by go_num, rfl, hK3, HB⟩
   case measure => simp [intOf]; omega
  ·have u1 : ¬ (j : Int) < (D.length : Int) := by omega
   go_wp2
   go_ret
   exact ⟨⟨K, rfl, by omega, by omega⟩, (za HA).2⟩
end WMkJ
end Go.Proofs.YtonffldjbmednaaGreatDoor

set_option linter.unusedSimpArgs false
namespace Go.Proofs.YtonffldjbmednaaGreatDoor
open Go.RowKit
namespace WMkX
open za9
structure Left (W : World) (N : List Pl.Ns) (gi : Nat) (B : Nat → Nat) (j : Nat) : Prop where
 ib : ∃ cur, W.heap[gi]? = some (.cells cur 103 (0, 0)) ∧ cur.size = N.length * 2 ∧ ∀ (i : Nat) t, N[i]? = some t → cur[i * 2 + 1]? = some (.slice t.a t.Is.length t.cap)
 band : ∀ (i : Nat) t, j ≤ i → N[i]? = some t → ∃ g, t.a = some ⟨g, 0, none⟩ ∧ B i ≤ g ∧ WMkJ.Has W g (B (i + 1)) t.Is
theorem Left.id {W : World} {N : List Pl.Ns} {gi : Nat} {B : Nat → Nat} {j : Nat} (h : Left W N gi B j) (hr : ∀ i, i < N.length → gi < B i) (v : Value) : Left (W.setCell ⟨gi, j * 2, none⟩ v) N gi B j := by
 obtain ⟨⟨cur, h1, h2, h3⟩, h4⟩ := h
 refine ⟨⟨_, heap_setCell_same _ _ _ _ _ _ h1, by simpa using h2, fun i t hi => ?_⟩, fun i t hj hi => ?_⟩
 ·rw [Array.getElem?_setIfInBounds, if_neg (by omega)]
  exact h3 i t hi
 ·obtain ⟨g, k1, k2, k3⟩ := h4 i t hj hi
  have := hr i (List.getElem?_eq_some_iff.1 hi).1
  exact ⟨g, k1, k2, k3.low _ _ (by show gi < g; omega)⟩
theorem Left.next {W W' : World} {N : List Pl.Ns} {gi : Nat} {B : Nat → Nat} {j g : Nat} (h : Left W N gi B j) (hr : ∀ i, i < N.length → gi < B i) (hm : ∀ i, j < i → i < N.length → B (j + 1) ≤ B i) (hg : B j ≤ g) (hj : j < N.length) (hb : Mem.Band g (B (j + 1)) W W') : Left W' N gi B (j + 1) := by
 obtain ⟨⟨cur, h1, h2, h3⟩, h4⟩ := h
 refine ⟨⟨cur, (hb.block gi (Array.getElem?_eq_some_iff.1 h1).1 (.inl (by have := hr j hj; omega))).trans h1, h2, h3⟩, fun i t hi ht => ?_⟩
 obtain ⟨g', k1, k2, k3⟩ := h4 i t (by omega) ht
 have := hm i (by omega) (List.getElem?_eq_some_iff.1 ht).1
 exact ⟨g', k1, k2, k3.same (fun b h1 h2 h3 => hb.block b h3 (.inr (by omega)))⟩
theorem Left.start {W : World} {s : Pl.Sp} {gi gm gh : Nat} {B : Nat → Nat} (h : HasS W s gi gm gh B) : Left W s.N gi B 0 := ⟨h.ib, fun i t _ hi => h.band i t hi⟩
set_option maxRecDepth 100000 in
set_option maxHeartbeats 1000000 in
theorem zm7 (N : List Pl.Ns) (gi gm cap : Nat) (B : Nat → Nat) (w : World) (hl : N.length ≤ 1048576) (hok : ∀ x ∈ N, x.Is.length ≤ 1048576 ∧ ∀ t ∈ x.Is, t.t.L.length ≤ 1048576) (hr : ∀ i, i < N.length → gi < B i) (hm : ∀ j i, j < i → i ≤ N.length → B (j + 1) ≤ B i) (htop : B N.length ≤ gm) (hgm : gi < gm) (hv : Left w N gi B 0) :
  Calls Tryz.prog 38 #[.slice (some ⟨gi, 0, none⟩) N.length cap, .int .i64 1] w fun e w' => (∃ K : Nat, e = .returned (.int .i64 (K : Int)) ∧ 0 < K ∧ K ≤ 5800000000000000000) ∧ Mem.Band gi gm w w' := by
 have HO := hide hok
 have HV := hide hv
 have HM := hide hm
 have HR := hide hr
 have HT := hide htop
 clear hok hv hm hr htop
 go_enter Tryz.func38, Tryz.ntmps38
 go_wp2
 go_loopw [1, 5] (fun a i wr => ∃ (j K : Nat), j ≤ N.length ∧ i = .int .i64 (j : Int) ∧ a = .int .i64 (K : Int) ∧ (0 < K ∧ K ≤ 1 + 5497559187457 * j) ∧ Hid (Left wr N gi B j ∧ Mem.Band gi gm w wr)) (fun _ i _ => N.length - (intOf i).toNat)
 case atStart => exact ⟨0, 1, Nat.zero_le _, rfl, rfl, by omega, ⟨za HV, Mem.Band.refl _ _ _⟩⟩
 case round =>
  obtain ⟨j, K, hj, rfl, rfl, hK, HA⟩ := hrel
  by_cases hlt : j < N.length
  ·obtain ⟨t, ht⟩ : ∃ t, N[j]? = some t := ⟨_, List.getElem?_eq_getElem hlt⟩
   have htl := za HO t (List.mem_of_getElem? ht)
   have HS := hide ((za HA).1.id (za HR) (.int .i64 (K : Int)))
   have BS := hide ((za HA).2.trans (Mem.Band.of_set (w := wr) ⟨gi, j * 2, none⟩ (.int .i64 (K : Int)) (Nat.le_refl _) hgm))
   obtain ⟨cur, hb1, hb2, hb3⟩ := (za HA).1.ib
   obtain ⟨cur2, hd1, hd2, hd3⟩ := (za HS).ib
   have c1 := (cell_of_row (wr.setCell ⟨gi, j * 2, none⟩ (.int .i64 (K : Int))) _ (j * 2 + 1) _ _ (0, 0) hd1).trans (hd3 j t ht)
   obtain ⟨g, h1, h2, h3⟩ := (za HS).band j t (Nat.le_refl _) ht
   obtain ⟨x0, s0⟩ : ∃ x, wr.cell? ⟨gi, j * 2, none⟩ = some x := ⟨_, (cell_of_row wr _ (j * 2) _ _ (0, 0) hb1).trans (Array.getElem?_eq_getElem (by omega))⟩
   have f0 : wr.frozen? ⟨gi, j * 2, none⟩ = false := Mem.za6 hb1
   obtain ⟨td, ta, tc, tI⟩ := t
   simp only at h1 h3 htl c1
   subst h1
   have hml := hide (WMkJ.mark_from (K + 1) g (B (j + 1)) tc tI (wr.setCell ⟨gi, j * 2, none⟩ (.int .i64 (K : Int))) (by omega) (by omega) htl.1 htl.2 h3)
   have H2 := hide h2
   have u1 : (j : Int) < (N.length : Int) := by omega
   have u3 : (0 : Int) ≤ (j : Int) := by omega
   have eK : ((K + 1 : Nat) : Int) = (K : Int) + 1 := by omega
   rw [eK] at hml
   have htl1 := htl.1
   clear h2 h3 ht HA hb1 hb2 hb3 hd1 hd2 hd3 eK htl
   go_wp2_with fail
   refine (za hml).mono ?_
   rintro e w2 ⟨⟨K2, rfl, hk1, hk2⟩, hg⟩
   have HB : Hid (Left w2 N gi B (j + 1) ∧ Mem.Band gi gm w w2) := by
    have q1 := za HR j hlt
    have q2 := za HM j N.length hlt (Nat.le_refl _)
    have q3 := za HT
    have q4 := za H2
    exact ⟨(za HS).next (za HR) (fun i hi hl => za HM j i hi (by omega)) q4 hlt hg, (za BS).trans ⟨hg.os, hg.tape, hg.output, hg.size, fun b hb hh => hg.block b hb (by omega)⟩⟩
   have hK3 : 0 < K2 ∧ K2 ≤ 1 + 5497559187457 * (j + 1) := by omega
   clear HS BS hml hg c1 s0 f0 H2 hk1 hk2 htl1 hK
   go_wp2
   go_roundw
   case rel => exact ⟨j + 1, K2, by omega, by go_num, rfl, hK3, HB⟩
   case measure => simp [intOf]; omega
  ·have u1 : ¬ (j : Int) < (N.length : Int) := by omega
   go_wp2
   go_ret
   exact ⟨⟨K, rfl, by omega, by omega⟩, (za HA).2⟩
set_option maxRecDepth 100000 in
set_option maxHeartbeats 1000000 in
theorem zu4 (s : Pl.Sp) (gi gm gh : Nat) (B : Nat → Nat) (w : World) (hok : OkS s 1048576) (hv : HasS w s gi gm gh B) :
  Calls Tryz.prog 13 #[.agg s.cs, .int .i64 1] w fun e w' => (∃ K : Nat, e = .returned (.int .i64 (K : Int)) ∧ 0 < K) ∧ Mem.Band gi (gh + 1) w w' := by
 have hr : ∀ i, i < s.N.length → gi < B i := fun i hi => by have := hv.lo; have := hv.mono i (by omega); omega
 have hm : ∀ j i, j < i → i ≤ s.N.length → B (j + 1) ≤ B i := fun j i h1 h2 => hv.rise i (j + 1) (by omega) h2
 have hgm : gi < gm := by have := hv.lo; have := hv.mono s.N.length (Nat.le_refl _); have := hv.top; omega
 have hmh := hv.mh
 have h1 := hide (fun cap W (b : Below w.heap.size w W) => zm7 s.N gi gm cap B W hok.n (fun x hx => ⟨(hok.each x hx).1, fun t ht => ((hok.each x hx).2 t ht).1⟩) hr hm hv.top hgm (Left.start (hv.call b)))
 obtain ⟨c2, q1, q2⟩ := hv.mb
 obtain ⟨c3, q3, q4⟩ := hv.hb
 have lm : gm < w.heap.size := (Array.getElem?_eq_some_iff.1 q1).1
 have lh : gh < w.heap.size := (Array.getElem?_eq_some_iff.1 q3).1
 have h2 := hide (fun cap K W (hK : 0 < K) (hK2 : K ≤ 8500000000000000000) (h : W.heap[gm]? = some (.cells c2 50 (0, 0))) => WMkM.zc5 gm s.M.length cap K c2 W hok.m hK hK2 h (by omega))
 have h3 := hide (fun cap K W (hK : 0 < K) (hK2 : K ≤ 8500000000000000000) (h : W.heap[gh]? = some (.cells c3 87 (0, 0))) => WMkH.zc5 gh s.H.length cap K c3 W hok.h hK hK2 h (by omega))
 have QM := hide q1
 have QH := hide q3
 have ei := hv.ia
 have em := hv.ma
 have eh := hv.ha
 have lM := hok.m
 have lH := hok.h
 clear q1 q2 q3 q4 hv hok hr hm
 obtain ⟨ia, ic, N, ma, mc, M, ha, hc, H, next⟩ := s
 simp only at ei em eh h1 h2 h3 lM lH
 subst ei em eh
 unfold Pl.Sp.cs
 simp only
 have b0 := (Below.refl w.heap.size w).alloc (o := .cells #[.slice (some ⟨gi, 0, none⟩) N.length ic, .slice (some ⟨gm, 0, none⟩) M.length mc, .slice (some ⟨gh, 0, none⟩) H.length hc, .int .i64 next] 32) (Nat.le_refl _)
 have V0 := hide (Mem.Blk.new w #[.slice (some ⟨gi, 0, none⟩) N.length ic, .slice (some ⟨gm, 0, none⟩) M.length mc, .slice (some ⟨gh, 0, none⟩) H.length hc, .int .i64 next] 32)
 have D0 : Hid (Mem.Band gi (gh + 1) w (w.alloc (.cells #[.slice (some ⟨gi, 0, none⟩) N.length ic, .slice (some ⟨gm, 0, none⟩) M.length mc, .slice (some ⟨gh, 0, none⟩) H.length hc, .int .i64 next] 32))) := hide (Mem.Band.of_below b0)
 have QM0 := hide ((b0.block gm lm).trans (za QM))
 have QH0 := hide ((b0.block gh lh).trans (za QH))
 have a0 := (za V0).cell 0
 simp only [kGs] at a0
 clear QM QH
 go_enter Tryz.func13, Tryz.ntmps13
 go_wp2_with fail
 have HC := hide (za h1 ic _ b0)
 clear h1
 generalize w.alloc (.cells #[.slice (some ⟨gi, 0, none⟩) N.length ic, .slice (some ⟨gm, 0, none⟩) M.length mc, .slice (some ⟨gh, 0, none⟩) H.length hc, .int .i64 next] 32) = wA at b0 V0 D0 QM0 QH0 a0 HC ⊢
 refine (za HC).mono ?_
 rintro e w1 ⟨⟨K1, rfl, k1, k2⟩, bd1⟩
 have hlA : gh < wA.heap.size := (Array.getElem?_eq_some_iff.1 (za QH0)).1
 have hlV : w.heap.size < wA.heap.size := (za V0).lt
 have V1 := hide (bd1.blk (za V0) (.inr (by omega)))
 have QM1 := hide ((bd1.block gm (by omega) (.inr (Nat.le_refl _))).trans (za QM0))
 have QH1 := hide ((bd1.block gh hlA (.inr (by omega))).trans (za QH0))
 have D1 := hide ((za D0).trans ⟨bd1.os, bd1.tape, bd1.output, bd1.size, fun b hb hh => bd1.block b hb (by omega)⟩)
 have hl1 := bd1.size
 clear HC bd1 V0 D0 QM0 QH0 a0 b0
 have a1 := (za V1).cell 1
 simp only [kGs] at a1
 have HC := hide (za h2 mc K1 w1 k1 (by omega) (za QM1))
 clear h2
 go_wp2_with fail
 refine (za HC).mono ?_
 rintro e w2 ⟨rfl, -, -, gr⟩
 have V2 := hide ((za V1).grown gr (fun e => by have := Option.some.inj e; omega))
 have QH2 := hide ((gr.block gh (by omega) (fun e => by have := Option.some.inj e; omega)).trans (za QH1))
 have D2 := hide ((za D1).trans (Mem.Band.zq7 gr (by omega) (by omega)))
 have hl2 := gr.size
 clear HC gr V1 D1 QM1 QH1 a1
 have a2 := (za V2).cell 2
 simp only [kGs] at a2
 have HC := hide (za h3 hc (K1 + 3 * M.length) w2 (by omega) (by omega) (za QH2))
 clear h3
 go_wp2_with fail
 refine (za HC).mono ?_
 rintro e w3 ⟨rfl, -, -, gr⟩
 have D3 := hide ((za D2).trans (Mem.Band.zq7 gr (by omega) (by omega)))
 clear HC gr V2 D2 QH2 a2
 go_wp2
 go_ret
 exact ⟨⟨_, rfl, by omega⟩, za D3⟩
end WMkX
end Go.Proofs.YtonffldjbmednaaGreatDoor

namespace Go.Proofs.YtonffldjbmednaaGreatDoor
open Go.RowKit
namespace WMkY
set_option linter.unusedSimpArgs false in
set_option maxRecDepth 100000 in
set_option maxHeartbeats 2000000 in
theorem ze9 (a : Option Addr) (cap : Nat) (N : List Pl.Ns) (w : World) (hn : N.length ≤ 12) (hI : ∀ x ∈ N, x.Is.length ≤ 12 ∧ ∀ t ∈ x.Is, t.t.L.length ≤ 40) (hv : Mem.zh4 w a (Pl.mkZ 1 N N.length)) :
  Calls Tryz.prog 76 #[.slice a N.length cap, .int .i64 1] w fun e w' => e = .returned (.int .i64 (Pl.kZ 1 N N.length : Int)) ∧ Below w.heap.size w w' := by
 have HV := hide hv
 have HI := hide hI
 clear hv hI
 go_enter Tryz.func76, Tryz.ntmps76
 go_wp2
 go_loopw [1, 5] (fun v i wr => ∃ j : Nat, j ≤ N.length ∧ i = .int .i64 (j : Int) ∧ v = .int .i64 (Pl.kZ 1 N j : Int) ∧ Below w.heap.size w wr) (fun _ i _ => N.length - (intOf i).toNat)
 case atStart => exact ⟨0, Nat.zero_le _, rfl, rfl, Below.refl _ _⟩
 case round =>
  obtain ⟨j, hj, rfl, rfl, hbel⟩ := hrel
  by_cases hlt : j < N.length
  ·obtain ⟨x, hx⟩ : ∃ x, N[j]? = some x := ⟨_, List.getElem?_eq_getElem hlt⟩
   obtain ⟨hI1, hI2⟩ := za HI x (List.mem_of_getElem? hx)
   have hk1 := Pl.kZ_le 1 N (za HI) j (by omega)
   have hk0 := Pl.kZ_ge 1 N j
   have HKS : Hid (Pl.kZ 1 N (j + 1) = Pl.kAt (Pl.kZ 1 N j + 1) x.Is x.Is.length) := hide (Pl.kZ_succ hx)
   have hy2 : (Pl.mkZ 1 N N.length)[j]? = some (Pl.mkN1 (Pl.kZ 1 N j) x) := by rw [Pl.mkZ_get, hx, Option.map_some, if_pos hlt]
   obtain ⟨⟨g, o, rfl, hg, c0, c1⟩, hit⟩ := (Mem.ze4 (za HV) hbel) j _ hy2
   have hk3 : ∀ i, i ≤ x.Is.length → Pl.kAt (Pl.kZ 1 N j + 1) x.Is i ≤ 100000 := fun i hi => by
    have := Pl.kAt_le (Pl.kZ 1 N j + 1) x.Is hI2 i hi
    omega
   have hkb : Pl.kZ 1 N j ≤ 100000 := by omega
   simp only [Pl.mkN1, Pl.mkTo_len] at c0 c1 hit
   have hml := hide (WMarkI.ze9 x.a x.cap (Pl.kZ 1 N j + 1) x.Is wr (by omega) (fun t ht => by have := hI2 t ht; omega) (by omega) hk3 hit)
   have hKE := Pl.kAt_ge (Pl.kZ 1 N j + 1) x.Is x.Is.length
   generalize Pl.kAt (Pl.kZ 1 N j + 1) x.Is x.Is.length = KE at HKS hml hKE
   generalize Pl.kZ 1 N j = KJ at hk1 hk0 HKS hml c0 hkb hKE ⊢
   have eK : ((KJ + 1 : Nat) : Int) = (KJ : Int) + 1 := by omega
   rw [eK] at hml
   have u1 : (j : Int) < (N.length : Int) := by omega
   have u3 : (0 : Int) ≤ (j : Int) := by omega
   have u4 : ¬ (KE : Int) < 0 := by omega
   clear hk3 hx hy2 eK hI1 hI2 hk1 hit hKE
   go_wp2_with fail
   refine (za hml).mono ?_
   rintro e w2 ⟨rfl, b2⟩
   have bN := hbel.trans (b2.mono hbel.size)
   clear hml b2 c0 c1
   go_wp2
   go_roundw
   case rel => exact ⟨j + 1, by omega, by go_num, by rw [za HKS], bN⟩
   case measure => simp [intOf]; omega
  ·have u1 : ¬ (j : Int) < (N.length : Int) := by omega
   have hje : j = N.length := by omega
   subst hje
   go_wp2
   go_ret
   exact ⟨rfl, hbel⟩
end WMkY
end Go.Proofs.YtonffldjbmednaaGreatDoor

