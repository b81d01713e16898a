/- Several texts of one claim in one file: WNestX, WViewI, WPlainP, WSightI. -/
import Derived.Test.YtppmlbofhghghaaGreatDoorG25
import Derived.Test.YtppmlbofhghghaaGreatDoorG37
import Derived.Test.YtppmlbofhghghaaGreatDoorG11
import Derived.Test.YtppmlbofhghghaaGreatDoorG36
import Derived.Test.YtppmlbofhghghaaGreatDoorG26
import Derived.Test.YtppmlbofhghghaaGreatDoorWPlainQ
import Derived.Test.YtppmlbofhghghaaGreatDoorPlainSightN
namespace Go.Proofs.YtppmlbofhghghaaGreatDoor
open Go.RowKit
namespace zt8
def Nested (w : World) (r0 r1 : TypeId) (x0 x1 : Value) (Is : List Pl.It) (NN : Option Pl.Fo) (e : Ending) (w' : World) : Prop :=
 (∃ L k q a cap, NN = some k.shape ∧ e = .returned (.tuple #[.agg #[.map (some q), .int .i64 (k.len : Int), .slice a k.len cap], .nilIface]) ∧ ((w.heap.size ≤ q ∧ Mem.apart w' q k (.slice a k.len cap)) ∧ Mem.ownM w' q L) ∧ ((Pl.Fx.cons L k .nil).okX ∧ (Pl.Fx.cons L k .nil).flat = Is.map Pl.It.r) ∧ Mem.layX w' (fun b => w.heap.size ≤ b) k (.slice a k.len cap)) ∨
 (NN = none ∧ ∃ r x, e = .returned (.tuple #[.agg #[.map none, .int .i64 0, .slice none 0 0], .iface r x]) ∧ ((400 < Is.length ∧ r = r0 ∧ x = x0) ∨ (Is.length ≤ 400 ∧ r = r1 ∧ x = x1)))
set_option linter.unusedSimpArgs false in
set_option maxRecDepth 100000 in
set_option maxHeartbeats 1000000 in
theorem nest_any (a : Option Addr) (cap : Nat) (Is : List Pl.It) (w : World) (hl : Is.length ≤ 1048576) (hcap : Is.length ≤ cap) (hv : Mem.zb3 w a Is) (hok : ∀ x ∈ Is, x.t.L.length ≤ 1048576 ∧ ∀ n ∈ x.t.L, n.path.size ≤ 1048576 ∧ n.data.size ≤ 1048576)
  (r0 r1 r2 r3 : TypeId) (x0 x1 x2 x3 : Value) (hE : zl7.Errs4 w r0 r1 r2 r3 x0 x1 x2 x3) :
  Calls Tryz.prog 74 #[.slice a Is.length cap] w fun e w' => Nested w r0 r1 x0 x1 Is (Pl.nest (Pl.rowO (Is.map Pl.It.r))) e w' ∧ Below w.heap.size w w' := by
 have hrl : (Pl.rowO (Is.map Pl.It.r)).length = Is.length := by rw [Pl.zx7, List.length_map]
 have b0 : Below w.heap.size w (w.alloc (.cells #[.map none, .int .i64 0, .slice none 0 0] 106)) := (Below.refl _ _).alloc (Nat.le_refl _) _
 have A0 := Mem.Blk.new w #[.map none, .int .i64 0, .slice none 0 0] 106
 have k0 := (hE.call b0).c0
 have k1 := (hE.call b0).three.c1
 by_cases h400 : 400 < Is.length
 ·have t0 : (400 : Int) < (Is.length : Int) := by omega
  rw [Pl.yk0 _ (by omega)]
  have HB0 := hide b0
  clear hv hok hE b0 A0 hrl
  go_enter Tryz.func74, Tryz.ntmps74
  go_wp2
  go_region
  go_wp2
  refine bodyPost_ret (v := .tuple #[.agg #[.map none, .int .i64 0, .slice none 0 0], .iface r0 x0]) (by simp [results, Tryz.results74, go_sem]) rfl ⟨Or.inr ⟨rfl, _, _, rfl, .inl ⟨h400, rfl, rfl⟩⟩, ?_⟩
  exact Mem.below_drewN (za HB0) 1
 have t0 : ¬ (400 : Int) < (Is.length : Int) := by omega
 by_cases h12 : 12 < Is.length
 ·have t1 : (12 : Int) < (Is.length : Int) := by omega
  rw [Pl.yk0 _ (by omega)]
  have HB0 := hide b0
  clear hv hok hE b0 A0 hrl
  go_enter Tryz.func74, Tryz.ntmps74
  go_wp2
  go_region
  go_wp2
  refine bodyPost_ret (v := .tuple #[.agg #[.map none, .int .i64 0, .slice none 0 0], .iface r1 x1]) (by simp [results, Tryz.results74, go_sem]) rfl ⟨Or.inr ⟨rfl, _, _, rfl, .inr ⟨by omega, rfl, rfl⟩⟩, ?_⟩
  exact Mem.below_drewN (za HB0) 1
 have t1 : ¬ (12 : Int) < (Is.length : Int) := by omega
 have hz := hide (take_any r1 r2 r3 x1 x2 x3 12 Is a cap _ (by omega) (by omega) hcap (Mem.za6 hv b0) hok (hE.call b0).three)
 have n1 : 1 < w.heap.size := World.block_lt_of_cell? w ⟨_, 0, none⟩ hE.three.c1
 have n2 : ¬ w.heap.size = 1 := by omega
 have n3 : ¬ 1 = w.heap.size := by omega
 have HE := hide (fun W (b : Below w.heap.size w W) => (hE.call b).three.c1)
 have HRL := hide hrl
 generalize Pl.rowO (Is.map Pl.It.r) = LL at hz HRL ⊢
 generalize hNN : Pl.nest LL = NN
 have HNN := hide hNN
 clear hv hok hE k0 k1 hrl hNN
 go_enter Tryz.func74, Tryz.ntmps74
 go_wp2_with fail
 generalize w.alloc (.cells #[.map none, .int .i64 0, .slice none 0 0] 106) = w2 at b0 A0 hz ⊢
 refine (za hz).mono ?_
 rintro e w1 ⟨h1, b1⟩
 have bw1 := b0.trans (b1.mono b0.size)
 have A1 := A0.call b1
 have HWW : Hid (w.heap.size < w2.heap.size) := hide A0.lt
 clear hz b1 A0 b0
 rcases h1 with ⟨L, kids, q, v, k, a', cap', ht, rfl, hk, hkl, hc, -, ⟨⟨hqw, hap⟩, hqm⟩, hfl, hlay⟩ | ⟨ht, rfl⟩
 ·obtain ⟨va, vcap, rfl, hrest⟩ := hlay
  have hlen : (Is.drop k).length = Is.length - k := List.length_drop
  have hR : (Pl.rowO ((Is.drop k).map Pl.It.r)).length = Is.length - k := by rw [Pl.zx7, List.length_map, hlen]
  have hsz := Pl.take_sz ht
  simp only [Pl.Fo.sz] at hsz
  have A2 := A1.alloc (.cells #[.map (some q), .int .i64 (kids.len : Int), .slice va kids.len vcap] 106)
  have X2 := Mem.Blk.new w1 #[.map (some q), .int .i64 (kids.len : Int), .slice va kids.len vcap] 106
  have bA : Below w1.heap.size w1 (w1.alloc (.cells #[.map (some q), .int .i64 (kids.len : Int), .slice va kids.len vcap] 106)) := (Below.refl _ _).alloc (Nat.le_refl _) _
  have bw2 := bw1.trans (bA.mono bw1.size)
  have HL : Hid (Mem.layX (w1.alloc (.cells #[.map (some q), .int .i64 (kids.len : Int), .slice va kids.len vcap] 106)) (fun b => w2.heap.size ≤ b) kids (.slice va kids.len vcap)) := hide (Mem.zl ⟨va, vcap, rfl, hrest⟩ bA)
  have HAP := hide (Mem.zo2 ⟨va, vcap, rfl, hrest⟩ hap bA)
  have HQM := hide (hqm.call bA)
  have HFL := hide hfl
  have HLD : Hid ((Is.drop k).length = Is.length - k) := hlen
  have HQW := hide hqw
  clear hqm hfl hqw hap
  rw [hlen]
  have hkk : Is.length - k ≤ 12 := by omega
  generalize Is.length - k = rest at hR hkk HLD ⊢
  by_cases hr0 : 0 < rest
  ·have u1 : (0 : Int) < (rest : Int) := by omega
   have hno : Hid (NN = none) := hide (by rw [← za HNN]; exact Pl.nest_rest ht (by omega))
   have e1 := za HE _ bw2
   have c20 := A2.cell 0
   have c21 := A2.cell 1
   have c22 := A2.cell 2
   have f20 := A2.fr 0
   have f21 := A2.fr 1
   have f22 := A2.fr 2
   simp only [kA0, kA1, kA2] at c20 c21 c22
   have BB := hide bw2
   clear A1 A2 X2 bA HL hrest bw1 bw2 HNN HE ht hlen
   go_wp2
   go_region
   go_wp2
   refine bodyPost_ret (v := .tuple #[.agg #[.map none, .int .i64 0, .slice none 0 0], .iface r1 x1]) (by simp [results, Tryz.results74, go_sem, c20, c21, c22]) rfl ⟨Or.inr ⟨za hno, _, _, rfl, .inr ⟨by omega, rfl, rfl⟩⟩, ?_⟩
   first | exact Mem.below_drewN (za BB) 1 | exact (((Mem.below_drewN (za BB) 1).setCell (Nat.le_refl _) _).setCell (Nat.le_refl _) _).setCell (Nat.le_refl _) _
  have u1 : ¬ (0 : Int) < (rest : Int) := by omega
  have hdz := kids.shape.depth_le
  have hcall := hide (zl7.depth_any _ 1000 (Nat.le_refl _) kids.shape (some q) (kids.len : Int) _ _ (by have := za HRL; omega) (Mem.yi3 (za HL)))
  go_wp2_with fail
  generalize w1.alloc (.cells #[.map (some q), .int .i64 (kids.len : Int), .slice va kids.len vcap] 106) = w3 at bA bw2 HL HAP HQM A2 X2 hcall ⊢
  refine (za hcall).mono ?_
  rintro e w4 ⟨rfl, b4⟩
  have bw4 := bw2.trans (b4.mono bw2.size)
  have A4 := A2.call b4
  have X4 := X2.call b4
  have HL4 : Hid (Mem.layX w4 (fun b => w2.heap.size ≤ b) kids (.slice va kids.len vcap)) := hide (Mem.zl (za HL) b4)
  have HQ4 := hide ((za HQM).call b4)
  have HA4 := hide (Mem.zo2 (za HL) (za HAP) b4)
  clear HQM HAP
  have c20 := A4.cell 0
  have c21 := A4.cell 1
  have c22 := A4.cell 2
  have f20 := A4.fr 0
  have f21 := A4.fr 1
  have f22 := A4.fr 2
  have c40 := X4.cell 0
  have c41 := X4.cell 1
  have c42 := X4.cell 2
  simp only [kA0, kA1, kA2] at c20 c21 c22 c40 c41 c42
  have hs1 : w2.heap.size ≤ w1.heap.size ∨ True := .inr trivial
  clear hcall HL b4 A2 X2 A4 X4 hrest hs1
  by_cases h4 : 4 < kids.shape.depth + 1
  ·have u2 : (4 : Int) < (kids.shape.depth : Int) + 1 := by omega
   have hno : Hid (NN = none) := hide (by rw [← za HNN]; exact Pl.nest_deep ht h4)
   have e1 := za HE _ bw4
   have BB := hide bw4
   clear A1 bA bw1 bw2 HNN HE ht hlen bw4 HL4
   go_wp2
   go_region
   go_wp2
   refine bodyPost_ret (v := .tuple #[.agg #[.map none, .int .i64 0, .slice none 0 0], .iface r1 x1]) (by simp [results, Tryz.results74, go_sem, c20, c21, c22]) rfl ⟨Or.inr ⟨za hno, _, _, rfl, .inr ⟨by omega, rfl, rfl⟩⟩, ?_⟩
   first | exact Mem.below_drewN (za BB) 1 | exact (((Mem.below_drewN (za BB) 1).setCell (Nat.le_refl _) _).setCell (Nat.le_refl _) _).setCell (Nat.le_refl _) _
  ·have u2 : ¬ (4 : Int) < (kids.shape.depth : Int) + 1 := by omega
   have hyes : Hid (NN = some kids.shape) := hide (by rw [← za HNN]; exact Pl.nest_ok (by have := za HRL; omega) ht (by omega) h4)
   have HW2 : Hid (w.heap.size < w2.heap.size) := HWW
   have BB := hide bw4
   clear A1 bA bw1 bw2 HNN HE ht hlen bw4
   go_wp2
   refine bodyPost_ret (v := .tuple #[.agg #[.map (some q), .int .i64 (kids.len : Int), .slice va kids.len vcap], .nilIface]) (by simp [results, Tryz.results74, go_sem, c20, c21, c22]) rfl ⟨Or.inl ⟨L, kids, q, va, vcap, za hyes, rfl, ?_, ?_, ?_⟩, ?_⟩
   ·have h1 := za HW2
    have h2 := za HQW
    exact ⟨⟨by omega, Mem.yp9 (fun b hb hlt => by rw [heap_setCell_other _ _ _ _ (by show b ≠ w.heap.size; omega), heap_setCell_other _ _ _ _ (by show b ≠ w.heap.size; omega), heap_setCell_other _ _ _ _ (by show b ≠ w.heap.size; omega)]) (za HL4) (za HA4)⟩, (((za HQ4).set _ _ (by show q ≠ w.heap.size; omega)).set _ _ (by show q ≠ w.heap.size; omega)).set _ _ (by show q ≠ w.heap.size; omega)⟩
   ·have h3 := za HFL
    have h4 : Is.drop k = [] := List.eq_nil_of_length_eq_zero (by have := za HLD; omega)
    rw [h4, List.map_nil, List.append_nil] at h3
    exact h3
   ·refine Mem.zv3 (fun b hb hlt => ⟨?_, by simpa using hlt, ?_⟩) (za HL4)
    ·have := za HW2; omega
    ·have := za HW2
     rw [heap_setCell_other _ _ _ _ (by show b ≠ w.heap.size; omega), heap_setCell_other _ _ _ _ (by show b ≠ w.heap.size; omega), heap_setCell_other _ _ _ _ (by show b ≠ w.heap.size; omega)]
   ·exact (((za BB).setCell (Nat.le_refl _) _).setCell (Nat.le_refl _) _).setCell (Nat.le_refl _) _
 ·have hno : Hid (NN = none) := hide (by rw [← za HNN]; exact Pl.nest_fail ht)
  have A2 := A1.alloc (.cells #[.map none, .int .i64 0, .slice none 0 0] 106)
  have bw2 := bw1.alloc bw1.size (.cells #[.map none, .int .i64 0, .slice none 0 0] 106)
  have c20 := A2.cell 0
  have c21 := A2.cell 1
  have c22 := A2.cell 2
  have f20 := A2.fr 0
  have f21 := A2.fr 1
  have f22 := A2.fr 2
  simp only [kA0, kA1, kA2] at c20 c21 c22
  have BB := hide bw2
  clear A1 A2 bw1 bw2 HNN HE ht
  go_wp2
  refine bodyPost_ret (v := .tuple #[.agg #[.map none, .int .i64 0, .slice none 0 0], .iface r1 x1]) (by simp [results, Tryz.results74, go_sem, c20, c21, c22]) rfl ⟨Or.inr ⟨za hno, _, _, rfl, .inr ⟨by omega, rfl, rfl⟩⟩, ?_⟩
  first | exact za BB | exact (((za BB).setCell (Nat.le_refl _) _).setCell (Nat.le_refl _) _).setCell (Nat.le_refl _) _
end zt8
end Go.Proofs.YtppmlbofhghghaaGreatDoor

namespace Go.Proofs.YtppmlbofhghghaaGreatDoor
open Go.RowKit Go.Maps
namespace zz1
set_option linter.unusedSimpArgs false in
set_option maxRecDepth 100000 in
set_option maxHeartbeats 1000000 in
theorem view_any (a : Option Addr) (cap : Nat) (Is : List Pl.It) (w : World) (hl : Is.length ≤ 1048576) (hcap : Is.length ≤ cap) (hv : Mem.zb3 w a Is) (hok : ∀ x ∈ Is, x.t.L.length ≤ 1048576 ∧ ∀ n ∈ x.t.L, n.path.size ≤ 1048576 ∧ n.data.size ≤ 1048576) (x : Nat → Addr) (hE : WIs.Six w x) :
  Calls Tryz.prog 117 #[.slice a Is.length cap] w fun e w' => ∃ v, e = .returned (.agg #[v, .int .i64 (Pl.ze (Is.map Pl.It.r))]) ∧ Mem.ownN w' w.heap.size v (Pl.ze8 (Is.map Pl.It.r)) ∧ Below w.heap.size w w' := by
 have b0 : Below w.heap.size w (w.alloc (.cells #[.slice none 0 0, .int .i64 0] 55)) := (Below.refl _ _).alloc (Nat.le_refl _) _
 have V0 := Mem.Blk.new w #[.slice none 0 0, .int .i64 0] 55
 have hs0 : (w.alloc (.cells #[.slice none 0 0, .int .i64 0] 55)).heap.size = w.heap.size + 1 := by simp
 have hxl : (Is.map Pl.It.r).length = Is.length := List.length_map ..
 have hno := hide (zt8.nest_any a cap Is (w.alloc (.cells #[.slice none 0 0, .int .i64 0] 55)) hl hcap (Mem.za6 hv b0) hok _ _ _ _ _ _ _ _ (six4 (hE.call b0)))
 have HE := hide (fun W (b : Below w.heap.size w W) => hE.call b)
 have HVL : Hid (400 < Is.length → Pl.ze (Is.map Pl.It.r) = 2 ∧ Pl.ze8 (Is.map Pl.It.r) = []) := fun h => Pl.ye9 (by omega)
 have HVB : Hid (¬ 400 < Is.length → Pl.nest (Pl.rowO (Is.map Pl.It.r)) = none → Pl.ze (Is.map Pl.It.r) = 1 ∧ Pl.ze8 (Is.map Pl.It.r) = []) := fun h1 h2 => Pl.view_bad (by omega) h2
 have HVN : Hid (∀ L k, Pl.nest (Pl.rowO (Is.map Pl.It.r)) = some (Pl.Fx.shape k) → (Pl.Fx.cons L k .nil).flat = Is.map Pl.It.r → Pl.zi7 L k = none → Pl.ze (Is.map Pl.It.r) = 9 ∧ Pl.ze8 (Is.map Pl.It.r) = []) := fun L k h1 h2 h3 => Pl.view_none (Pl.zn4 h1) (Pl.yb4 h1 h2) h3
 have HVS : Hid (∀ L k V, Pl.nest (Pl.rowO (Is.map Pl.It.r)) = some (Pl.Fx.shape k) → (Pl.Fx.cons L k .nil).flat = Is.map Pl.It.r → Pl.zi7 L k = some V → Pl.ze (Is.map Pl.It.r) = 0 ∧ Pl.ze8 (Is.map Pl.It.r) = V) := fun L k V h1 h2 h3 => Pl.view_some (Pl.zn4 h1) (Pl.yb4 h1 h2) h3
 have HSZ : Hid (∀ L k, Pl.nest (Pl.rowO (Is.map Pl.It.r)) = some (Pl.Fx.shape k) → (Pl.Fx.cons L k .nil).flat = Is.map Pl.It.r → k.sz ≤ 1000) := fun L k h1 h2 => by
  have h3 := Pl.zn4 h1
  have h4 := congrArg List.length h2
  rw [Pl.Fx.yc8, Pl.Fx.sz] at h4
  omega
 generalize Pl.ze (Is.map Pl.It.r) = C at HVL HVB HVN HVS ⊢
 generalize Pl.ze8 (Is.map Pl.It.r) = O at HVL HVB HVN HVS ⊢
 generalize Pl.nest (Pl.rowO (Is.map Pl.It.r)) = NN at hno HVB HVN HVS HSZ
 clear hv hok hE hxl
 go_enter Tryz.func117, Tryz.ntmps117
 go_wp2_with fail
 generalize w.alloc (.cells #[.slice none 0 0, .int .i64 0] 55) = w2 at b0 V0 hs0 hno ⊢
 refine (za hno).mono ?_
 rintro e w1 ⟨hN, b1⟩
 have bw1 := b0.trans (b1.mono b0.size)
 have V1 := V0.call b1
 have hs1 := b1.size
 clear hno b0 V0
 rcases hN with ⟨L, k, q, a1, cap1, hNN, rfl, ⟨-, hqm⟩, ⟨hko, hfl⟩, hlay⟩ | ⟨hNN, r, y, rfl, hwhy⟩
 rotate_left
 ·have V2 := V1.alloc (.cells #[.map none, .int .i64 0, .slice none 0 0] 106)
  have bw2 := bw1.alloc bw1.size (.cells #[.map none, .int .i64 0, .slice none 0 0] 106)
  rcases hwhy with ⟨h4, rfl, rfl⟩ | ⟨h4, rfl, rfl⟩
  ·obtain ⟨rfl, rfl⟩ := za HVL h4
   have hcd := hide (WIs.code0 x _ (za HE _ bw2))
   clear V1 bw1 HVL HVB HVN HVS HSZ hNN
   go_wp2_with fail
   refine (za hcd).mono ?_
   rintro e w3 ⟨rfl, hw3⟩
   subst w3
   have HB := hide bw2
   have d0 := V2.cell 0
   have d1 := V2.cell 1
   have f0 := V2.fr 0
   have f1 := V2.fr 1
   simp only [kA0, kA1, kA2] at d0 d1
   clear hcd V2 bw2
   go_wp2
   refine bodyPost_ret (v := .agg #[.slice none 0 0, .int .i64 2]) (by simp [results, Tryz.results117, go_sem, d0, d1]) rfl ⟨_, rfl, Mem.zb6 _ _, ?_⟩
   first | exact ((za HB).setCell (Nat.le_refl _) _).setCell (Nat.le_refl _) _ | exact (za HB).setCell (Nat.le_refl _) _
  ·obtain ⟨rfl, rfl⟩ := za HVB (by omega) hNN
   have hcd := hide (WIs.code1 x _ (za HE _ bw2))
   clear V1 bw1 HVL HVB HVN HVS HSZ hNN
   go_wp2_with fail
   refine (za hcd).mono ?_
   rintro e w3 ⟨rfl, hw3⟩
   subst w3
   have HB := hide bw2
   have d0 := V2.cell 0
   have d1 := V2.cell 1
   have f0 := V2.fr 0
   have f1 := V2.fr 1
   simp only [kA0, kA1, kA2] at d0 d1
   clear hcd V2 bw2
   go_wp2
   refine bodyPost_ret (v := .agg #[.slice none 0 0, .int .i64 1]) (by simp [results, Tryz.results117, go_sem, d0, d1]) rfl ⟨_, rfl, Mem.zb6 _ _, ?_⟩
   first | exact ((za HB).setCell (Nat.le_refl _) _).setCell (Nat.le_refl _) _ | exact (za HB).setCell (Nat.le_refl _) _
 have V2 := V1.alloc (.cells #[.map (some q), .int .i64 (k.len : Int), .slice a1 k.len cap1] 106)
 have bw2 := bw1.alloc bw1.size (.cells #[.map (some q), .int .i64 (k.len : Int), .slice a1 k.len cap1] 106)
 have bA : Below w1.heap.size w1 (w1.alloc (.cells #[.map (some q), .int .i64 (k.len : Int), .slice a1 k.len cap1] 106)) := (Below.refl _ _).alloc (Nat.le_refl _) _
 have X2 := Mem.Blk.new w1 #[.map (some q), .int .i64 (k.len : Int), .slice a1 k.len cap1] 106
 have x0 := X2.cell 0
 have x1 := X2.cell 1
 have x2 := X2.cell 2
 simp only [kA0, kA1, kA2] at x0 x1 x2
 have hlf := hide (WAsLeaf.leaf_as x 1000 (Nat.le_refl _) _ k L q (k.len : Int) _ _ (za HSZ L k hNN hfl) hko (hqm.call bA) (Mem.zl hlay bA) (za HE _ bw2))
 have HVT := hide (fun V (h : Pl.zi7 L k = some V) => Pl.view_ok hko h)
 have HN2 := hide (fun h => za HVN L k hNN hfl h)
 have HS2 := hide (fun V h => za HVS L k V hNN hfl h)
 clear hqm hko hfl hlay bA X2 V1 bw1 HVL HVB HVN HVS HSZ hNN
 go_wp2_with fail
 generalize w1.alloc (.cells #[.map (some q), .int .i64 (k.len : Int), .slice a1 k.len cap1] 106) = w4 at V2 bw2 hlf x0 x1 x2 ⊢
 refine (za hlf).mono ?_
 rintro e w5 ⟨hX, b5⟩
 have bw5 := bw2.trans (b5.mono bw2.size)
 have V5 := V2.call b5
 clear hlf x0 x1 x2
 rcases hX with ⟨V, q5, m5, hV, rfl, hm5⟩ | ⟨hV, rfl⟩
 ·obtain ⟨rfl, rfl⟩ := za HS2 V hV
  have V6 := V5.alloc (.cells #[.map (some q5), .int .i64 m5] 103)
  have bw6 := bw5.alloc bw5.size (.cells #[.map (some q5), .int .i64 m5] 103)
  have X6 := Mem.Blk.new w5 #[.map (some q5), .int .i64 m5] 103
  have x0 := X6.cell 0
  simp only [kA0, kA1, kA2] at x0
  have hri := hide (rise_tree q5 O (w5.alloc (.cells #[.map (some q5), .int .i64 m5] 103)) (za HVT _ hV) (hm5.call ((Below.refl _ _).alloc (Nat.le_refl _) _)))
  clear V2 V5 bw2 bw5 b5 HVT HN2 HS2 hV hm5 X6
  go_wp2_with fail
  generalize w5.alloc (.cells #[.map (some q5), .int .i64 m5] 103) = w6 at V6 bw6 hri x0 ⊢
  refine (za hri).mono ?_
  rintro e w7 ⟨v7, rfl, own7, b7⟩
  obtain ⟨a7, c7, rfl⟩ := Mem.za2 own7
  have hR := V6.lt
  have V7 := V6.call b7
  have OW := hide (Mem.zb4 (Mem.za8 (Mem.za8 own7 ⟨w.heap.size, 0, none⟩ (.slice a7 O.length c7) (by show w.heap.size < _; omega)) ⟨w.heap.size, 1, none⟩ (.int .i64 0) (by show w.heap.size < _; omega)) (show w.heap.size ≤ w6.heap.size by omega))
  have HB := hide (bw6.trans (b7.mono bw6.size))
  have d0 := V7.cell 0
  have d1 := V7.cell 1
  have f0 := V7.fr 0
  have f1 := V7.fr 1
  simp only [kA0, kA1, kA2] at d0 d1
  clear hri own7 b7 V6 V7 bw6 x0
  go_wp2
  refine bodyPost_ret (v := .agg #[.slice a7 O.length c7, .int .i64 0]) (by simp [results, Tryz.results117, go_sem, d0, d1]) rfl ⟨_, rfl, za OW, ?_⟩
  exact ((za HB).setCell (Nat.le_refl _) _).setCell (Nat.le_refl _) _
 ·obtain ⟨rfl, rfl⟩ := za HN2 hV
  have V2 := V5.alloc (.cells #[.map none, .int .i64 0] 103)
  have bw2 := bw5.alloc bw5.size (.cells #[.map none, .int .i64 0] 103)
  have hcd := hide (WIs.code5 x _ (za HE _ bw2))
  clear V5 bw5 b5 HVT HN2 HS2 hV
  go_wp2_with fail
  refine (za hcd).mono ?_
  rintro e w3 ⟨rfl, hw3⟩
  subst w3
  have HB := hide bw2
  have d0 := V2.cell 0
  have d1 := V2.cell 1
  have f0 := V2.fr 0
  have f1 := V2.fr 1
  simp only [kA0, kA1, kA2] at d0 d1
  clear hcd V2 bw2
  go_wp2
  refine bodyPost_ret (v := .agg #[.slice none 0 0, .int .i64 9]) (by simp [results, Tryz.results117, go_sem, d0, d1]) rfl ⟨_, rfl, Mem.zb6 _ _, ?_⟩
  first | exact ((za HB).setCell (Nat.le_refl _) _).setCell (Nat.le_refl _) _ | exact (za HB).setCell (Nat.le_refl _) _
end zz1
end Go.Proofs.YtppmlbofhghghaaGreatDoor

namespace Go.Proofs.YtppmlbofhghghaaGreatDoor
open Go.RowKit
namespace yg9
set_option maxRecDepth 100000 in
set_option maxHeartbeats 1000000 in
theorem zn0 (a : Option Addr) (cap : Nat) (L : List Pl.Nd) (w : World) (hl : L.length ≤ 1048576) (hv : Mem.za1 w a L) (hok : ∀ n ∈ L, n.path.size ≤ 1048576 ∧ n.data.size ≤ 1048576)
  (r1 r2 r3 : TypeId) (x1 x2 x3 : Value) (hE : zc2.Errs w r1 r2 r3 x1 x2 x3) :
  Calls Tryz.prog 118 #[.agg #[.slice a L.length cap]] w fun e w' => ∃ v, e = .returned (.agg #[v, .int .i64 (Pl.zz9 L)]) ∧ Mem.ownN w' w.heap.size v (Pl.plainO L) ∧ Below w.heap.size w w' := by
 obtain ⟨i0, hi, hz0, hz1, hz2⟩ := info_parts zn8
 have b0 : Below w.heap.size w ((w.alloc (.cells #[.slice a L.length cap] 50)).alloc (.cells #[.slice none 0 0, .int .i64 0] 55)) := ((Below.refl _ _).alloc (Nat.le_refl _) _).alloc (by simp) _
 have hr := hide (zc2.yj6 a cap L _ hl (Mem.za0 hv b0) hok r1 r2 r3 x1 x2 x3 (hE.call b0))
 have HV := hide hv
 have HO := hide hok
 have V1 := (Mem.Blk.new w #[.slice a L.length cap] 50).alloc (.cells #[.slice none 0 0, .int .i64 0] 55)
 have V2 : Mem.Blk ((w.alloc (.cells #[.slice a L.length cap] 50)).alloc (.cells #[.slice none 0 0, .int .i64 0] 55)) (w.heap.size + 1) #[.slice none 0 0, .int .i64 0] 55 := Mem.zg0 _ _ _
 have EO : Hid (Pl.za5 L = true → Pl.plainO L = Pl.zd4 L ∧ Pl.zz9 L = 0) := fun h => by simp [Pl.plainO, Pl.zz9, h]
 have EN : Hid (Pl.za5 L = false → Pl.plainO L = [] ∧ Pl.zz9 L = 1) := fun h => by simp [Pl.plainO, Pl.zz9, h]
 generalize Pl.plainO L = PO at EO EN ⊢
 generalize Pl.zz9 L = PC at EO EN ⊢
 generalize Pl.za5 L = R2 at EO EN hr
 clear hv hok hE
 cases R2
 ·obtain ⟨rfl, rfl⟩ := za EN rfl
  clear EO EN
  go_enter Tryz.func118, Tryz.ntmps118
  go_wp2_with fail
  refine (za hr).mono ?_
  rintro e w1 ⟨rfl, b1⟩
  have b2 := b0.trans (b1.mono b0.size)
  have V3 := V2.call b1
  have c0 := V3.cell 0
  have c1 := V3.cell 1
  have f0 := V3.fr 0
  have f1 := V3.fr 1
  simp only [kA0, kA1, kA2] at c0 c1
  clear hr b0 b1 V1 V2
  go_wp2
  refine bodyPost_ret (v := .agg #[.slice none 0 0, .int .i64 1]) (by simp [results, Tryz.results118, go_sem, c0, c1]) rfl ⟨_, rfl, Mem.zb6 _ _, ?_⟩
  exact (b2.setCell (by show w.heap.size ≤ w.heap.size + 1; omega) _).setCell (by show w.heap.size ≤ w.heap.size + 1; omega) _
 obtain ⟨rfl, rfl⟩ := za EO rfl
 clear EO EN
 go_enter Tryz.func118, Tryz.ntmps118
 go_wp2_with fail
 refine (za hr).mono ?_
 rintro e w1 ⟨rfl, b1⟩
 have b2 := b0.trans (b1.mono b0.size)
 have V3 := V2.call b1
 have hs : w.heap.size + 1 < w1.heap.size := V3.lt
 have c0 := ((V1.call b1).alloc (.cells #[] 47)).cell 0
 simp only [kA0, kA1] at c0
 have OW0 : Hid (Mem.ownN (w1.alloc (.cells #[] 47)) (w.heap.size + 2) (.slice (some ⟨w1.heap.size, 0, none⟩) 0 0) (Pl.zd4 (L.take 0))) :=
  ⟨rfl, .inr ⟨w1.heap.size, 0, #[], rfl, by omega, heap_alloc_new _ _, Nat.le_refl _, Nat.zero_le _, rfl, rfl⟩⟩
 have b3 := b2.alloc b2.size (.cells #[] 47)
 have V4 := hide (V3.alloc (.cells #[] 47))
 clear hr b0 b1 V1 V2 V3 b2
 go_wp2
 go_loopw [3, 14] (fun v i wr => ∃ k : Nat, k ≤ L.length ∧ i = .int .i64 (k : Int) ∧ Below w.heap.size w wr ∧ Hid (Mem.Blk wr (w.heap.size + 1) #[.slice none 0 0, .int .i64 0] 55) ∧ Hid (Mem.ownN wr (w.heap.size + 2) v (Pl.zd4 (L.take k)))) (fun _ i _ => L.length - (intOf i).toNat)
 case atStart => exact ⟨0, Nat.zero_le _, rfl, b3, V4, OW0⟩
 case round =>
  obtain ⟨k, hk, rfl, hbel, HB, HOWN⟩ := hrel
  clear c0 b3 V4 OW0
  by_cases hlt : k < L.length
  ·obtain ⟨n, hn⟩ : ∃ n, L[k]? = some n := ⟨_, List.getElem?_eq_getElem hlt⟩
   obtain ⟨b, o, rfl, hb, q0, q1, q2, q3, q4⟩ := (Mem.za0 (za HV) hbel) k n hn
   have y1 : (k : Int) < (L.length : Int) := by omega
   have y3 : (0 : Int) ≤ (k : Int) := by omega
   have hno := za HO n (List.mem_of_getElem? hn)
   by_cases hk0 : n.kind = 0
   ·have t2 : (n.kind == 0) = true := by simpa using hk0
    have OW2 := hide (show Mem.ownN (wr.alloc (.cells #[.string n.path, .int .i64 0, .string n.data, .int .i64 n.time, .int .i64 n.mark] 47)) (w.heap.size + 2) u3 (Pl.zd4 (L.take (k + 1))) by rw [Pl.yp0 hn hk0]; exact Mem.zf8 (za HOWN) _)
    have HB2 := hide ((za HB).alloc (.cells #[.string n.path, .int .i64 0, .string n.data, .int .i64 n.time, .int .i64 n.mark] 47))
    have bb := hbel.alloc hbel.size (.cells #[.string n.path, .int .i64 0, .string n.data, .int .i64 n.time, .int .i64 n.mark] 47)
    clear hn HB HOWN hbel
    go_wp2
    go_roundw
    case rel => exact ⟨k + 1, by omega, by go_num, bb, HB2, OW2⟩
    case measure => simp [intOf]; omega
   ·have t2 : (n.kind == 0) = false := by simpa using hk0
    have HPL := hide (Pl.plainL_in hn hk0)
    have HLEN := hide (Pl.yb3 L k)
    have hc := hide (fun W => WCopied.any n.bare W hno.1 hno.2)
    clear hn hk0
    obtain ⟨p, k0, d, t, m⟩ := n
    simp only [Pl.Nd.bare, Pl.Nd.val] at q0 q1 q2 q3 q4 t2 HPL hc
    have OWD := Mem.zf8 (za HOWN) (.cells #[.string p, .int .i64 k0, .string d, .int .i64 t, .int .i64 0] 47)
    have BLD := hide ((za HB).alloc (.cells #[.string p, .int .i64 k0, .string d, .int .i64 t, .int .i64 0] 47))
    have bW := hbel.alloc hbel.size (.cells #[.string p, .int .i64 k0, .string d, .int .i64 t, .int .i64 0] 47)
    clear HB HOWN hbel
    go_wp2_with fail
    refine (za hc _).mono ?_
    rintro e wC ⟨rfl, bC⟩
    have OWC := Mem.ze3 OWD bC
    have BLC := hide ((za BLD).call bC)
    have bX := bW.trans (bC.mono bW.size)
    have HLT := hide (Mem.ze2 OWC)
    have HSZ := hide (za BLC).lt
    clear OWD BLD bW bC hc q0 q1 q2 q3 q4
    go_wp2_with (at_builtin; refine wpList_append_own _ rfl _ _ 48 rfl (w.heap.size + 2) 47 i0 _ 5 56 Tryz.underlying48 hi hz0 hz1 hz2 rfl (by decide) _ _ _ rfl (Mem.zf8 OWC _) ⟨wC.heap.size, 0, none⟩ 1 1 [.string p, .int .i64 k0, .string d, .int .i64 t, .int .i64 0] rfl rfl (Mem.zp8 wC ⟨p, k0, d, t, 0⟩ _) (Mem.zn5 ⟨p, k0, d, t, 0⟩) (by have := za HLEN; unfold maxLen; omega) (by have := za HLEN; omega) (by have := za HSZ; simp; omega) ?_)
    intro v'' wZ hownZ hgrow _
    have OWZ := hide (show Mem.ownN wZ (w.heap.size + 2) v'' (Pl.zd4 (L.take (k + 1))) by rw [za HPL]; exact Mem.zl0 (L := Pl.zd4 (L.take k)) (n := ⟨p, k0, d, t, 0⟩) hownZ)
    have BLZ := hide (((za BLC).alloc (.cells #[.string p, .int .i64 k0, .string d, .int .i64 t, .int .i64 0] 47)).grown hgrow (fun e => by have := (za HLT _ e.symm).1; omega))
    have bZ := (bX.alloc bX.size (.cells #[.string p, .int .i64 k0, .string d, .int .i64 t, .int .i64 0] 47)).grown hgrow (by have := bX.size; simp; omega) (fun q hq => by have := (za HLT q hq).1; omega)
    clear hownZ hgrow BLC OWC bX
    go_wp2
    go_roundw
    case rel => exact ⟨k + 1, by omega, by go_num, bZ, BLZ, OWZ⟩
    case measure => simp [intOf]; omega
  ·obtain rfl : k = L.length := by omega
   rw [List.take_length] at HOWN
   obtain ⟨a', cap', hv'⟩ := Mem.za2 (za HOWN)
   subst hv'
   have d0 := (za HB).cell 0
   have d1 := (za HB).cell 1
   have f0 := (za HB).fr 0
   have f1 := (za HB).fr 1
   simp only [kA0, kA1, kA2] at d0 d1
   go_wp2
   refine bodyPost_ret (v := .agg #[.slice a' (Pl.zd4 L).length cap', .int .i64 0]) (by simp [results, Tryz.results118, go_sem, d0, d1]) rfl ⟨_, rfl, ?_, ?_⟩
   ·exact Mem.zb4 (Mem.za8 (Mem.za8 (za HOWN) _ _ (by show w.heap.size + 1 < w.heap.size + 2; omega)) _ _ (by show w.heap.size + 1 < w.heap.size + 2; omega)) (by omega)
   ·exact (hbel.setCell (by show w.heap.size ≤ w.heap.size + 1; omega) _).setCell (by show w.heap.size ≤ w.heap.size + 1; omega) _
end yg9
end Go.Proofs.YtppmlbofhghghaaGreatDoor

namespace Go.Proofs.YtppmlbofhghghaaGreatDoor
open Go.RowKit
namespace zz1
set_option linter.unusedSimpArgs false in
set_option maxRecDepth 100000 in
set_option maxHeartbeats 1000000 in
theorem sight_any (a : Option Addr) (cap : Nat) (Is : List Pl.It) (w : World) (hl : Is.length ≤ 1048576) (hcap : Is.length ≤ cap) (hv : Mem.zb3 w a Is) (hok : ∀ x ∈ Is, x.t.L.length ≤ 1048576 ∧ ∀ n ∈ x.t.L, n.path.size ≤ 1048576 ∧ n.data.size ≤ 1048576) (x : Nat → Addr) (hE : WIs.Six w x) :
  Calls Tryz.prog 78 #[.slice a Is.length cap] w fun e w' => ∃ v, e = .returned (.agg #[v, .int .i64 (Pl.ze (Is.map Pl.It.r))]) ∧ Mem.ownN w' w.heap.size v (Pl.zc5 (Is.map Pl.It.r)) ∧ Below w.heap.size w w' := by
 have b0 : Below w.heap.size w (w.alloc (.cells #[.slice none 0 0, .int .i64 0] 55)) := (Below.refl _ _).alloc (Nat.le_refl _) _
 have V0 := Mem.Blk.new w #[.slice none 0 0, .int .i64 0] 55
 have hs0 : (w.alloc (.cells #[.slice none 0 0, .int .i64 0] 55)).heap.size = w.heap.size + 1 := by simp
 have hvi := hide (zz1.view_any a cap Is (w.alloc (.cells #[.slice none 0 0, .int .i64 0] 55)) hl hcap (Mem.za6 hv b0) hok x (hE.call b0))
 have HN : Hid (Pl.ze (Is.map Pl.It.r) ≠ 0 → Pl.ze8 (Is.map Pl.It.r) = [] ∧ Pl.zc5 (Is.map Pl.It.r) = []) := fun h => ⟨Pl.view_nil h, Pl.sight_no h⟩
 have HY : Hid (Pl.ze (Is.map Pl.It.r) = 0 → Pl.za5 (Pl.ze8 (Is.map Pl.It.r)) = true ∧ Pl.zc5 (Is.map Pl.It.r) = Pl.zd4 (Pl.ze8 (Is.map Pl.It.r))) := fun h => ⟨Pl.yf5 h, Pl.yj8 h⟩
 have HL := hide (Pl.view_le (Is.map Pl.It.r))
 generalize Pl.zc5 (Is.map Pl.It.r) = O at HN HY ⊢
 generalize Pl.ze (Is.map Pl.It.r) = C at hvi HN HY ⊢
 generalize Pl.ze8 (Is.map Pl.It.r) = V at hvi HN HY HL
 have HE := hide (fun W (b : Below w.heap.size w W) => hE.call b)
 clear hv hok hE
 go_enter Tryz.func78, Tryz.ntmps78
 go_wp2_with fail
 generalize w.alloc (.cells #[.slice none 0 0, .int .i64 0] 55) = w2 at b0 V0 hs0 hvi ⊢
 refine (za hvi).mono ?_
 rintro e w1 ⟨v1, rfl, own1, b1⟩
 obtain ⟨a1, c1, rfl⟩ := Mem.za2 own1
 have bw1 := b0.trans (b1.mono b0.size)
 have V3 := (V0.call b1).alloc (.cells #[.slice a1 V.length c1, .int .i64 C] 55)
 have bw3 := bw1.alloc bw1.size (.cells #[.slice a1 V.length c1, .int .i64 C] 55)
 have X3 := Mem.Blk.new w1 #[.slice a1 V.length c1, .int .i64 C] 55
 have O3 := Mem.zf8 own1 (.cells #[.slice a1 V.length c1, .int .i64 C] 55)
 have hs1 := b1.size
 have x0 := X3.cell 0
 have x1 := X3.cell 1
 simp only [kA0, kA1, kA2] at x0 x1
 clear hvi b0 V0 own1 b1 bw1 X3
 by_cases hC : C = 0
 ·subst hC
  obtain ⟨ht, rfl⟩ := za HY rfl
  have hpl := hide (yg9.zn0 a1 c1 V (w1.alloc (.cells #[.slice a1 V.length c1, .int .i64 0] 55)) (by have := (za HL).1; omega) (Mem.zc7 O3).2 (za HL).2 _ _ _ _ _ _ (za HE _ bw3).errs)
  rw [show Pl.zz9 V = 0 by rw [Pl.zz9, if_pos ht], show Pl.plainO V = Pl.zd4 V by rw [Pl.plainO, if_pos ht]] at hpl
  clear HN HY HL ht O3 HE
  go_wp2_with fail
  generalize w1.alloc (.cells #[.slice a1 V.length c1, .int .i64 0] 55) = w4 at V3 bw3 hpl x0 x1 ⊢
  refine (za hpl).mono ?_
  rintro e w5 ⟨v5, rfl, own5, b5⟩
  obtain ⟨a5, c5, rfl⟩ := Mem.za2 own5
  have hR := V3.lt
  have OW := hide (Mem.zb4 (Mem.za8 (Mem.za8 own5 ⟨w.heap.size, 0, none⟩ (.slice a5 (Pl.zd4 V).length c5) (by show w.heap.size < _; omega)) ⟨w.heap.size, 1, none⟩ (.int .i64 0) (by show w.heap.size < _; omega)) (show w.heap.size ≤ w4.heap.size by omega))
  have HB := hide (bw3.trans (b5.mono bw3.size))
  have d0 := (V3.call b5).cell 0
  have d1 := (V3.call b5).cell 1
  have f0 := (V3.call b5).fr 0
  have f1 := (V3.call b5).fr 1
  simp only [kA0, kA1, kA2] at d0 d1
  clear hpl own5 b5 V3 bw3 x0 x1
  go_wp2
  refine bodyPost_ret (v := .agg #[.slice a5 (Pl.zd4 V).length c5, .int .i64 0]) (by simp [results, Tryz.results78, go_sem, d0, d1]) rfl ⟨_, rfl, za OW, ?_⟩
  first | exact ((za HB).setCell (Nat.le_refl _) _).setCell (Nat.le_refl _) _ | exact (za HB).setCell (Nat.le_refl _) _
 ·obtain ⟨rfl, rfl⟩ := za HN hC
  simp only [List.length_nil] at V3 bw3 O3 x0 x1 ⊢
  have hD1 : (C == 0) = false := by simpa using hC
  have hD2 : decide (C = 0) = false := by simpa using hC
  have hD3 : (C != 0) = true := by simpa using hC
  have OW := hide (Mem.zb4 (Mem.za8 (Mem.za8 O3 ⟨w.heap.size, 0, none⟩ (.slice a1 0 c1) (by show w.heap.size < _; omega)) ⟨w.heap.size, 1, none⟩ (.int .i64 C) (by show w.heap.size < _; omega)) (show w.heap.size ≤ w2.heap.size by omega))
  clear HN HY HL O3 HE
  have HB := hide bw3
  have d0 := V3.cell 0
  have d1 := V3.cell 1
  have f0 := V3.fr 0
  have f1 := V3.fr 1
  simp only [kA0, kA1, kA2] at d0 d1
  clear V3 bw3
  go_wp2
  refine bodyPost_ret (v := .agg #[.slice a1 0 c1, .int .i64 C]) (by simp [results, Tryz.results78, go_sem, d0, d1]) rfl ⟨_, rfl, za OW, ?_⟩
  first | exact ((za HB).setCell (Nat.le_refl _) _).setCell (Nat.le_refl _) _ | exact (za HB).setCell (Nat.le_refl _) _
end zz1
end Go.Proofs.YtppmlbofhghghaaGreatDoor

