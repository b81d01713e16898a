/- Several texts of one claim in one file: WViewS, WSightS, WLwTree, WPlainU. -/
import Derived.Test.YtcogaghibpajjaaGreatDoorPlainNX
import Derived.Test.YtcogaghibpajjaaGreatDoorG48
import Derived.Test.YtcogaghibpajjaaGreatDoorPlainSightN
import Derived.Test.YtcogaghibpajjaaGreatDoorG07
import Derived.Test.YtcogaghibpajjaaGreatDoorG42
import Derived.Test.YtcogaghibpajjaaGreatDoorG02
namespace Go.Proofs.YtcogaghibpajjaaGreatDoor
open Go.RowKit
namespace zp4
set_option linter.unusedSimpArgs false in
set_option maxRecDepth 100000 in
set_option maxHeartbeats 1000000 in
theorem yd4 (a : Option Addr) (cap : Nat) (Is : List Pl.It) (w : World) (hl : Is.length ≤ 1048576) (hv : Mem.zd4 w a Is) (hok : ∀ x ∈ Is, x.t.L.length ≤ 1048576 ∧ ∀ n ∈ x.t.L, n.path.size ≤ 1048576 ∧ n.data.size ≤ 1048576) (hR : ∀ x ∈ Is, Mem.okR x.t.a x.t.cap x.t.L) :
  Calls Tryz.prog 8 #[.slice a Is.length cap] w fun e w' => ∃ v, e = .returned (.agg #[v, .int .i64 (Pl.zc3 (Is.map Pl.It.r))]) ∧ Mem.ownN w' w.heap.size v (Pl.zc5 (Is.map Pl.It.r)) ∧ Below w.heap.size w w' := by
 have b0 : Below w.heap.size w (w.alloc (.cells #[.slice none 0 0, .int .i64 0] 29)) := (Below.refl _ _).alloc (Nat.le_refl _) _
 have V0 := Mem.Blk.new w #[.slice none 0 0, .int .i64 0] 29
 have hs0 : (w.alloc (.cells #[.slice none 0 0, .int .i64 0] 29)).heap.size = w.heap.size + 1 := by simp
 have hxl : (Is.map Pl.It.r).length = Is.length := List.length_map ..
 by_cases h400 : 400 < Is.length
 ·have t0 : (400 : Int) < (Is.length : Int) := by omega
  obtain ⟨e1, e2⟩ := Pl.zx8 (xs := Is.map Pl.It.r) (by omega)
  rw [e1, e2]
  have hil := hide (zk0.zh2 2 (w.alloc (.cells #[.slice none 0 0, .int .i64 0] 29)))
  clear e1 e2 hv hok hR hxl
  go_enter Tryz.func8, Tryz.ntmps8
  go_wp2_with fail
  generalize w.alloc (.cells #[.slice none 0 0, .int .i64 0] 29) = w2 at b0 V0 hs0 hil ⊢
  refine (za hil).mono ?_
  rintro e w3 ⟨rfl, b3⟩
  have OW := Mem.zb8 ((w3.setCell ⟨w.heap.size, 0, none⟩ (.slice none 0 0)).setCell ⟨w.heap.size, 1, none⟩ (.int .i64 2)) w.heap.size
  have HB := hide (b0.trans (b3.mono b0.size))
  have d0 := (V0.call b3).cell 0
  have d1 := (V0.call b3).cell 1
  have f0 := (V0.call b3).fr 0
  have f1 := (V0.call b3).fr 1
  simp only [kA0, kA1, kA2] at d0 d1
  clear hil V0 b0 b3 OW
  go_wp2
  refine bodyPost_ret (v := .agg #[.slice none 0 0, .int .i64 2]) (by simp [results, Tryz.results8, go_sem, d0, d1]) rfl ⟨_, rfl, Mem.zb8 _ _, ?_⟩
  first | exact ((za HB).setCell (Nat.le_refl _) _).setCell (Nat.le_refl _) _ | exact (za HB).setCell (Nat.le_refl _) _
 have t0 : ¬ (400 : Int) < (Is.length : Int) := by omega
 have hnr := hide (WNestS.zl6 a cap Is (w.alloc (.cells #[.slice none 0 0, .int .i64 0] 29)) hl (Mem.zh8 hv b0) hok)
 cases hF : Pl.nest (Pl.rowO (Is.map Pl.It.r)) with
 | none =>
  obtain ⟨e1, e2⟩ := Pl.view_bad (xs := Is.map Pl.It.r) (by omega) hF
  rw [e1, e2]
  rw [hF] at hnr
  have hil := hide (fun W => zk0.zh2 1 W)
  clear e1 e2 hv hok hR hxl hF
  go_enter Tryz.func8, Tryz.ntmps8
  go_wp2_with fail
  generalize w.alloc (.cells #[.slice none 0 0, .int .i64 0] 29) = w2 at b0 V0 hs0 hnr ⊢
  refine (za hnr).mono ?_
  rintro e w1 ⟨rfl, b1⟩
  have b0 := b0.trans (b1.mono b0.size)
  have V0 := V0.call b1
  clear b1 hnr
  go_wp2_with fail
  refine (za hil _).mono ?_
  rintro e w3 ⟨rfl, b3⟩
  have OW := Mem.zb8 ((w3.setCell ⟨w.heap.size, 0, none⟩ (.slice none 0 0)).setCell ⟨w.heap.size, 1, none⟩ (.int .i64 1)) w.heap.size
  have HB := hide (b0.trans (b3.mono b0.size))
  have d0 := (V0.call b3).cell 0
  have d1 := (V0.call b3).cell 1
  have f0 := (V0.call b3).fr 0
  have f1 := (V0.call b3).fr 1
  simp only [kA0, kA1, kA2] at d0 d1
  clear hil V0 b0 b3 OW
  go_wp2
  refine bodyPost_ret (v := .agg #[.slice none 0 0, .int .i64 1]) (by simp [results, Tryz.results8, go_sem, d0, d1]) rfl ⟨_, rfl, Mem.zb8 _ _, ?_⟩
  first | exact ((za HB).setCell (Nat.le_refl _) _).setCell (Nat.le_refl _) _ | exact (za HB).setCell (Nat.le_refl _) _
 | some F =>
  obtain ⟨L, k, hks, hfl, hko, hnx⟩ := Pl.yc6 hF
  have hl12 := Pl.zs4 hF
  rw [hF] at hnr
  have hsz : k.sz < 13 := by
   have h1 := congrArg List.length hfl
   rw [Pl.Fx.flat_len, Pl.Fx.sz] at h1
   simp only [Pl.Fx.sz] at h1
   omega
  have HV5 := hide (fun W (b : Below w.heap.size w W) => view5_any a cap Is (by omega) hR 13 L k 0 W hsz hko ⟨[], by rw [List.drop_zero, List.append_nil, hfl]⟩ (Mem.zh8 hv b))
  have EN : Hid (Pl.ze5 L k = none → Pl.zc3 (Is.map Pl.It.r) = 9 ∧ Pl.zc5 (Is.map Pl.It.r) = []) := fun h => Pl.view_none hl12 hnx h
  have ES : Hid (∀ V, Pl.ze5 L k = some V → Pl.zc3 (Is.map Pl.It.r) = 0 ∧ Pl.zc5 (Is.map Pl.It.r) = V) := fun V h => Pl.zy4 hl12 hnx h
  generalize Pl.zc3 (Is.map Pl.It.r) = C at EN ES ⊢
  generalize Pl.zc5 (Is.map Pl.It.r) = O at EN ES ⊢
  clear hv hok hR hxl hF hks hfl hko hnx
  go_enter Tryz.func8, Tryz.ntmps8
  go_wp2_with fail
  generalize w.alloc (.cells #[.slice none 0 0, .int .i64 0] 29) = w2 at b0 V0 hs0 hnr ⊢
  refine (za hnr).mono ?_
  rintro e w1 ⟨rfl, b1⟩
  have b0 := b0.trans (b1.mono b0.size)
  have V0 := V0.call b1
  have hs1 := b1.size
  clear b1 hnr
  go_wp2_with fail
  refine (za HV5 _ b0).mono ?_
  rintro e w3 ⟨⟨a1, cap1, c1, V1, rfl, own1, hV⟩, b3⟩
  have hCN : C = c1 ∧ O = V1 := by
   rcases hV with ⟨h1, rfl⟩ | ⟨h1, rfl, rfl⟩
   ·exact za ES _ h1
   ·exact za EN h1
  obtain ⟨eC, eO⟩ := hCN
  subst C
  subst O
  have b4 := b0.trans (b3.mono b0.size)
  have b5 := b4.alloc b4.size (.cells #[.slice a1 V1.length cap1, .int .i64 c1] 29)
  have V5 := (V0.call b3).alloc (.cells #[.slice a1 V1.length cap1, .int .i64 c1] 29)
  have O5 := Mem.zb7 own1 (.cells #[.slice a1 V1.length cap1, .int .i64 c1] 29)
  have OW := hide (Mem.zb0 (Mem.za5 (Mem.za5 O5 ⟨w.heap.size, 0, none⟩ (.slice a1 V1.length cap1) (by show w.heap.size < _; omega)) ⟨w.heap.size, 1, none⟩ (.int .i64 c1) (by show w.heap.size < _; omega)) (show w.heap.size ≤ w1.heap.size by omega))
  have HB := hide b5
  have d0 := V5.cell 0
  have d1 := V5.cell 1
  have f0 := V5.fr 0
  have f1 := V5.fr 1
  simp only [kA0, kA1, kA2] at d0 d1
  clear HV5 EN ES hV own1 b3 b4 b5 V0 V5 O5 b0
  go_wp2
  refine bodyPost_ret (v := .agg #[.slice a1 V1.length cap1, .int .i64 c1]) (by simp [results, Tryz.results8, go_sem, d0, d1]) rfl ⟨_, rfl, za OW, ?_⟩
  exact ((za HB).setCell (Nat.le_refl _) _).setCell (Nat.le_refl _) _
end zp4
end Go.Proofs.YtcogaghibpajjaaGreatDoor

namespace Go.Proofs.YtcogaghibpajjaaGreatDoor
open Go.RowKit
namespace zp4
set_option linter.unusedSimpArgs false in
set_option maxRecDepth 100000 in
set_option maxHeartbeats 1000000 in
theorem specSight_any (a : Option Addr) (cap : Nat) (Is : List Pl.It) (w : World) (hl : Is.length ≤ 1048576) (hv : Mem.zd4 w a Is) (hok : ∀ x ∈ Is, x.t.L.length ≤ 1048576 ∧ ∀ n ∈ x.t.L, n.path.size ≤ 1048576 ∧ n.data.size ≤ 1048576) (hR : ∀ x ∈ Is, Mem.okR x.t.a x.t.cap x.t.L) :
  Calls Tryz.prog 9 #[.slice a Is.length cap] w fun e w' => ∃ v, e = .returned (.agg #[v, .int .i64 (Pl.zc3 (Is.map Pl.It.r))]) ∧ Mem.ownN w' w.heap.size v (Pl.zh4 (Is.map Pl.It.r)) ∧ Below w.heap.size w w' := by
 have b0 : Below w.heap.size w (w.alloc (.cells #[.slice none 0 0, .int .i64 0] 29)) := (Below.refl _ _).alloc (Nat.le_refl _) _
 have V0 := Mem.Blk.new w #[.slice none 0 0, .int .i64 0] 29
 have hs0 : (w.alloc (.cells #[.slice none 0 0, .int .i64 0] 29)).heap.size = w.heap.size + 1 := by simp
 have hvi := hide (zp4.yd4 a cap Is (w.alloc (.cells #[.slice none 0 0, .int .i64 0] 29)) hl (Mem.zh8 hv b0) hok hR)
 have HN : Hid (Pl.zc3 (Is.map Pl.It.r) ≠ 0 → Pl.zc5 (Is.map Pl.It.r) = [] ∧ Pl.zh4 (Is.map Pl.It.r) = []) := fun h => ⟨Pl.view_nil h, Pl.sight_no h⟩
 have HY : Hid (Pl.zc3 (Is.map Pl.It.r) = 0 → Pl.za2 (Pl.zc5 (Is.map Pl.It.r)) = true ∧ Pl.zh4 (Is.map Pl.It.r) = Pl.zb4 (Pl.zc5 (Is.map Pl.It.r))) := fun h => ⟨Pl.zn6 h, Pl.zq3 h⟩
 have HL := hide (Pl.zw (Is.map Pl.It.r))
 generalize Pl.zh4 (Is.map Pl.It.r) = O at HN HY ⊢
 generalize Pl.zc3 (Is.map Pl.It.r) = C at hvi HN HY ⊢
 generalize Pl.zc5 (Is.map Pl.It.r) = V at hvi HN HY HL
 clear hv hok hR
 go_enter Tryz.func9, Tryz.ntmps9
 go_wp2_with fail
 generalize w.alloc (.cells #[.slice none 0 0, .int .i64 0] 29) = w2 at b0 V0 hs0 hvi ⊢
 refine (za hvi).mono ?_
 rintro e w1 ⟨v1, rfl, own1, b1⟩
 obtain ⟨a1, c1, rfl⟩ := Mem.za0 own1
 have bw1 := b0.trans (b1.mono b0.size)
 have V3 := (V0.call b1).alloc (.cells #[.slice a1 V.length c1, .int .i64 C] 29)
 have bw3 := bw1.alloc bw1.size (.cells #[.slice a1 V.length c1, .int .i64 C] 29)
 have X3 := Mem.Blk.new w1 #[.slice a1 V.length c1, .int .i64 C] 29
 have O3 := Mem.zb7 own1 (.cells #[.slice a1 V.length c1, .int .i64 C] 29)
 have hs1 := b1.size
 have x0 := X3.cell 0
 have x1 := X3.cell 1
 simp only [kA0, kA1, kA2] at x0 x1
 clear hvi b0 V0 own1 b1 bw1 X3
 by_cases hC : C = 0
 ·subst hC
  obtain ⟨ht, rfl⟩ := za HY rfl
  have hpl := hide (zz4.l04_any a1 c1 V (w1.alloc (.cells #[.slice a1 V.length c1, .int .i64 0] 29)) (by have := (za HL).1; omega) (Mem.zh6 O3).2)
  clear HN HY HL ht O3
  go_wp2_with fail
  generalize w1.alloc (.cells #[.slice a1 V.length c1, .int .i64 0] 29) = w4 at V3 bw3 hpl x0 x1 ⊢
  refine (za hpl).mono ?_
  rintro e w5 ⟨v5, rfl, own5, b5⟩
  obtain ⟨a5, c5, rfl⟩ := Mem.za0 own5
  have hR := V3.lt
  have OW := hide (Mem.zb0 (Mem.za5 (Mem.za5 own5 ⟨w.heap.size, 0, none⟩ (.slice a5 (Pl.zb4 V).length c5) (by show w.heap.size < _; omega)) ⟨w.heap.size, 1, none⟩ (.int .i64 0) (by show w.heap.size < _; omega)) (show w.heap.size ≤ w4.heap.size by omega))
  have HB := hide (bw3.trans (b5.mono bw3.size))
  have d0 := (V3.call b5).cell 0
  have d1 := (V3.call b5).cell 1
  have f0 := (V3.call b5).fr 0
  have f1 := (V3.call b5).fr 1
  simp only [kA0, kA1, kA2] at d0 d1
  clear hpl own5 b5 V3 bw3 x0 x1
  go_wp2
  refine bodyPost_ret (v := .agg #[.slice a5 (Pl.zb4 V).length c5, .int .i64 0]) (by simp [results, Tryz.results9, go_sem, d0, d1]) rfl ⟨_, rfl, za OW, ?_⟩
  first | exact ((za HB).setCell (Nat.le_refl _) _).setCell (Nat.le_refl _) _ | exact (za HB).setCell (Nat.le_refl _) _
 ·obtain ⟨rfl, rfl⟩ := za HN hC
  have hD1 : (C == 0) = false := by simpa using hC
  have hD2 : decide (C = 0) = false := by simpa using hC
  have hD3 : (C != 0) = true := by simpa using hC
  have hil := hide (fun W => zk0.zh2 C W)
  clear HN HY HL O3
  go_wp2_with fail
  refine (za hil _).mono ?_
  rintro e w5 ⟨rfl, b5⟩
  have HB := hide (bw3.trans (b5.mono bw3.size))
  have d0 := (V3.call b5).cell 0
  have d1 := (V3.call b5).cell 1
  have f0 := (V3.call b5).fr 0
  have f1 := (V3.call b5).fr 1
  simp only [kA0, kA1, kA2] at d0 d1
  clear hil b5 V3 bw3 x0 x1
  go_wp2
  refine bodyPost_ret (v := .agg #[.slice none 0 0, .int .i64 C]) (by simp [results, Tryz.results9, go_sem, d0, d1]) rfl ⟨_, rfl, Mem.zb8 _ _, ?_⟩
  first | exact ((za HB).setCell (Nat.le_refl _) _).setCell (Nat.le_refl _) _ | exact (za HB).setCell (Nat.le_refl _) _
end zp4
end Go.Proofs.YtcogaghibpajjaaGreatDoor

namespace Go.Proofs.YtcogaghibpajjaaGreatDoor
open Go.RowKit
namespace WLw
set_option linter.unusedSimpArgs false in
set_option maxRecDepth 100000 in
set_option maxHeartbeats 2000000 in
theorem zs3 (a b : Option Addr) (c1 c2 : Nat) (L : List Pl.Nd) (w : World) (hA : L.length ≤ 1048576) (hv : Mem.za9 w a L) (hu : Mem.za9 w b L) :
  Calls Tryz.prog 19 #[.agg #[.slice a L.length c1], .agg #[.slice b L.length c2]] w fun e w' => e = .returned (.bool true) ∧ Below w.heap.size w w' := by
 have b0 : Below w.heap.size w ((w.alloc (.cells #[.slice a L.length c1] 27)).alloc (.cells #[.slice b L.length c2] 27)) := ((Below.refl _ _).alloc (Nat.le_refl _) _).alloc (by simp) _
 have HV := hide hv
 have HU := hide hu
 clear hv hu
 go_enter Tryz.func19, Tryz.ntmps19
 go_wp2
 go_loopw [5] (fun i wr => ∃ k : Nat, k ≤ L.length ∧ i = .int .i64 (k : Int) ∧ Below w.heap.size w wr ∧ Hid (Mem.Var wr w.heap.size [.slice a L.length c1]) ∧ Hid (Mem.Var wr (w.heap.size + 1) [.slice b L.length c2])) (fun i _ => L.length - (intOf i).toNat)
 case atStart =>
  refine ⟨0, Nat.zero_le _, rfl, b0, ?_, ?_⟩
  ·exact hide (Mem.zx5 (Mem.ze7 w [.slice a L.length c1] 27) _)
  ·have h := Mem.ze7 (w.alloc (.cells #[.slice a L.length c1] 27)) [.slice b L.length c2] 27
   rw [show (w.alloc (.cells #[.slice a L.length c1] 27)).heap.size = w.heap.size + 1 by simp] at h
   exact hide h
 case round =>
  obtain ⟨k, hk, rfl, hbel, V1, V2⟩ := hrel
  have cv1 := (za V1).2 0 _ rfl
  have cv2 := (za V2).2 0 _ rfl
  by_cases hlt : k < L.length
  ·obtain ⟨n, hn⟩ : ∃ n, L[k]? = some n := ⟨_, List.getElem?_eq_getElem hlt⟩
   have y1 : (k : Int) < (L.length : Int) := by omega
   have y3 : (0 : Int) ≤ (k : Int) := by omega
   obtain ⟨g, o, rfl, hg, q0, q1, q2, q3, q4⟩ := (Mem.za4 (za HV) hbel) k n hn
   obtain ⟨g2, o2, rfl, hg2, p0, p1, p2, p3, p4⟩ := (Mem.za4 (za HU) hbel) k n hn
   obtain ⟨np, nk, nd, nt, nm⟩ := n
   simp only at q0 q1 q2 q3 q4 p0 p1 p2 p3 p4
   clear hn HV HU b0
   go_wp2
   go_quiet (fail)
   go_wp2
   go_roundw
   case rel => exact ⟨k + 1, by omega, by go_num, Mem.below_drewN hbel _, za V1, za V2⟩
   case measure => simp [intOf]; omega
  ·have y1 : ¬ (k : Int) < (L.length : Int) := by omega
   go_wp2
   go_ret
   exact ⟨rfl, hbel⟩
set_option linter.unusedSimpArgs false in
set_option maxRecDepth 100000 in
set_option maxHeartbeats 2000000 in
theorem zo (a b : Option Addr) (c1 c2 : Nat) (C : Int) (L : List Pl.Nd) (w : World) (hA : L.length ≤ 1048576) (hv : Mem.za9 w a L) (hu : Mem.za9 w b L) (hok : ∀ n ∈ L, n.path.size ≤ 1048576 ∧ n.data.size ≤ 1048576) (hr : C = 0 → Pl.za2 L = true) :
  Calls Tryz.prog 7 #[.agg #[.slice a L.length c1, .int .i64 C], .agg #[.slice b L.length c2, .int .i64 C]] w fun e w' => e = .returned (.bool true) ∧ Below w.heap.size w w' := by
 have b0 : Below w.heap.size w ((w.alloc (.cells #[.slice a L.length c1, .int .i64 C] 29)).alloc (.cells #[.slice b L.length c2, .int .i64 C] 29)) := ((Below.refl _ _).alloc (Nat.le_refl _) _).alloc (by simp) _
 have B1 := hide ((Mem.Blk.new w #[.slice a L.length c1, .int .i64 C] 29).alloc (.cells #[.slice b L.length c2, .int .i64 C] 29))
 have B2 : Hid (Mem.Blk ((w.alloc (.cells #[.slice a L.length c1, .int .i64 C] 29)).alloc (.cells #[.slice b L.length c2, .int .i64 C] 29)) (w.heap.size + 1) #[.slice b L.length c2, .int .i64 C] 29) := Mem.zg9 _ _ _
 have HT := hide (zs3 a b c1 c2 L _ hA (Mem.za4 hv b0) (Mem.za4 hu b0))
 have HR := hide (fun W (b : Below w.heap.size w W) => zm4.zu9 a c1 L W hA (Mem.za4 hv b) hok)
 clear hv hu hok
 have x0 := (za B1).cell 0
 have x1 := (za B1).cell 1
 have y0 := (za B2).cell 0
 have y1 := (za B2).cell 1
 simp only [kA0, kA1, kA2] at x0 x1 y0 y1
 go_enter Tryz.func7, Tryz.ntmps7
 go_wp2_with fail
 refine (za HT).mono ?_
 rintro e w1 ⟨rfl, b1⟩
 have B3 := hide ((za B1).call b1)
 have bw1 := b0.trans (b1.mono b0.size)
 clear HT x0 x1 y0 y1 B1 B2 b1 b0
 have x0 := (za B3).cell 0
 have x1 := (za B3).cell 1
 simp only [kA0, kA1, kA2] at x0 x1
 by_cases h0 : C = 0
 ·subst h0
  have hr' := hide (hr rfl)
  clear hr
  rw [za hr'] at HR
  go_wp2_with fail
  refine (za HR _ bw1).mono ?_
  rintro e w2 ⟨rfl, b2⟩
  go_wp2
  go_ret
  exact ⟨rfl, bw1.trans (b2.mono bw1.size)⟩
 ·clear HR hr
  go_wp2
  go_ret
  exact ⟨rfl, bw1⟩
end WLw
end Go.Proofs.YtcogaghibpajjaaGreatDoor

namespace Go.Proofs.YtcogaghibpajjaaGreatDoor
open Go.RowKit
namespace WPlainT
set_option maxRecDepth 100000 in
set_option maxHeartbeats 400000 in
theorem zn9 (a : Option Addr) (cap : Nat) (L : List Pl.Nd) (w : World) (hl : L.length ≤ 1048576) (hv : Mem.za9 w a L) (hok : ∀ n ∈ L, n.path.size ≤ 1048576 ∧ n.data.size ≤ 1048576)
  (r1 r2 r3 : TypeId) (x1 x2 x3 : Value) (hE : zg.Errs w r1 r2 r3 x1 x2 x3) :
  Calls Tryz.prog 10 #[.agg #[.slice a L.length cap]] w fun e w' => e = .returned (.bool (Pl.zk3 L)) ∧ Below w.heap.size w w' := by
 have b0 : Below w.heap.size w (w.alloc (.cells #[.slice a L.length cap] 27)) := (Below.refl _ _).alloc (Nat.le_refl _) _
 have HV := hide hv
 have hvar := Mem.ze7 w [.slice a L.length cap] 27
 have hr := hide (zg.yc3 a cap L _ hl (Mem.za4 hv b0) hok r1 r2 r3 x1 x2 x3 (hE.call b0))
 have E0 : Hid (Pl.za2 L = false → Pl.zk3 L = false) := Pl.plain_not
 have E1 : Hid (∀ (k : Nat) n, L[k]? = some n → n.mark ≠ 0 → Pl.zk3 L = false) := fun k n => Pl.plain_bad
 have E2 : Hid ((∀ (j : Nat) n, L[j]? = some n → n.mark = 0) → Pl.zk3 L = Pl.za2 L) := Pl.plain_good
 have E3 : Hid (Pl.za2 L = true → ∀ (k : Nat) n, L[k]? = some n → (n.kind = 0 → n.mark ≠ 0) ∧ 0 ≤ n.mark) := fun h k n hn => ⟨fun hk => Pl.gone_mark (Pl.tree_node h hn) hk, (Pl.zh0 (Pl.tree_node h hn)).2.2.1.1⟩
 generalize Pl.zk3 L = R at E0 E1 E2 ⊢
 generalize Pl.za2 L = R2 at E0 E2 E3 hr
 clear hv hok hE
 cases R2
 ·have E := hide (za E0 rfl)
  go_enter Tryz.func10, Tryz.ntmps10
  go_wp2_with fail
  refine (za hr).mono ?_
  rintro e w1 ⟨rfl, b1⟩
  have b2 := b0.trans (b1.mono b0.size)
  clear hvar
  go_wp2
  go_ret
  exact ⟨za1 (za E).symm, b2⟩
 have E4 := hide (za E3 rfl)
 clear E0 E3
 go_enter Tryz.func10, Tryz.ntmps10
 go_wp2_with fail
 refine (za hr).mono ?_
 rintro e w1 ⟨rfl, b1⟩
 have b2 := b0.trans (b1.mono b0.size)
 have c0 := (Mem.zi3 hvar b1).2 0 _ rfl
 have HV2 := hide (Mem.za4 (za HV) b2)
 clear hvar hr HV b1 b0
 go_wp2
 go_loopw [11] (fun i wr => ∃ k : Nat, k ≤ L.length ∧ i = .int .i64 (k : Int) ∧ Below w1.heap.size w1 wr ∧ Hid (∀ (j : Nat) m, j < k → L[j]? = some m → m.mark = 0)) (fun i _ => L.length - (intOf i).toNat)
 case atStart => exact ⟨0, Nat.zero_le _, rfl, Below.refl _ _, fun j m h => absurd h (by omega)⟩
 case round =>
  obtain ⟨k, hk, rfl, hbel, HA⟩ := hrel
  by_cases hlt : k < L.length
  ·obtain ⟨n, hn⟩ : ∃ n, L[k]? = some n := ⟨_, List.getElem?_eq_getElem hlt⟩
   obtain ⟨b, o, rfl, hb, q0, q1, q2, q3, q4⟩ := (Mem.za4 (za HV2) hbel) k n hn
   have hb3 : ∀ o, Below w1.heap.size w1 (wr.alloc o) := fun o => hbel.alloc hbel.size o
   have HB3 := hide hb3
   obtain ⟨m1, m2⟩ := za E4 k n hn
   have y1 : (k : Int) < (L.length : Int) := by omega
   have y3 : (0 : Int) ≤ (k : Int) := by omega
   clear hb3
   by_cases hm : n.mark = 0
   ·have t1 : (n.kind == 0) = false := by simpa using fun e => m1 e hm
    have t2 : ¬ 0 < n.mark := by omega
    have HA2 : Hid (∀ (j : Nat) m, j < k + 1 → L[j]? = some m → m.mark = 0) := fun j m hj hm' => by
     rcases Nat.lt_succ_iff_lt_or_eq.1 hj with h'' | rfl
     ·exact HA.out j m h'' hm'
     ·rw [hn] at hm'; cases hm'; exact hm
    clear hm hn m1 m2
    go_wp2
    go_roundw
    case rel => exact ⟨k + 1, by omega, by go_num, za HB3 _, HA2⟩
    case measure => simp [intOf]; omega
   ·have E := hide (za E1 k n hn hm)
    have t2 : 0 < n.mark := by omega
    clear hm hn m1 m2
    by_cases hk0 : n.kind = 0
    ·have t1 : (n.kind == 0) = true := by simpa using hk0
     clear hk0
     go_wp2
     go_ret
     exact ⟨za1 (za E).symm, b2.trans ((za HB3 _).mono b2.size)⟩
    ·have t1 : (n.kind == 0) = false := by simpa using hk0
     clear hk0
     go_wp2
     go_ret
     exact ⟨za1 (za E).symm, b2.trans ((za HB3 _).mono b2.size)⟩
  ·have E := hide (za E2 (fun j n h => HA.out j n (by have := (List.getElem?_eq_some_iff.1 h).1; omega) h))
   have y1 : ¬ (k : Int) < (L.length : Int) := by omega
   go_wp2
   go_ret
   exact ⟨za1 (za E).symm, b2.trans (hbel.mono b2.size)⟩
end WPlainT
end Go.Proofs.YtcogaghibpajjaaGreatDoor

