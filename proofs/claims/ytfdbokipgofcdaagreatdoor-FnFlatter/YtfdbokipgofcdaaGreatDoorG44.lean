/- Several texts of one claim in one file: WNestX, WFlatI, WFlatT, WFlatZ, WPathsTo. -/
import Derived.Test.YtfdbokipgofcdaaGreatDoorG14
import Derived.Test.YtfdbokipgofcdaaGreatDoorG43
import Derived.Test.YtfdbokipgofcdaaGreatDoorG34
import Derived.Test.YtfdbokipgofcdaaGreatDoorWFlat
import Derived.Test.YtfdbokipgofcdaaGreatDoorG36
import Derived.Test.YtfdbokipgofcdaaGreatDoorG37
import Derived.Test.YtfdbokipgofcdaaGreatDoorPlainPickF
import Derived.Test.YtfdbokipgofcdaaGreatDoorG15
import Derived.Test.YtfdbokipgofcdaaGreatDoorG07
import Derived.Test.YtfdbokipgofcdaaGreatDoorG02
import Derived.Test.YtfdbokipgofcdaaGreatDoorG03
import Derived.RangeFuncNested
import Derived.RangeFuncBound
import Derived.RangeFuncCalls
import Derived.RangeFuncLeaves
import Derived.Shelf.Abstract
import Derived.Shelf.RegionOpen
import Derived.OwnWalkIn
import Derived.TacticsInMore
import Derived.LoopNIn
import Derived.LoopIn
namespace Go.Proofs.YtfdbokipgofcdaaGreatDoor
open Go.RowKit
namespace zr9
def Nested (w : World) (r0 r1 : TypeId) (x0 x1 : Value) (Is : List Pl.It) (NN : Option Pl.Fo) (e : Ending) (w' : World) : Prop :=
 (∃ L k q a cap, NN = some k.shape ∧ e = .returned (.tuple #[.agg #[.map (some q), .int .i64 (k.len : Int), .slice a k.len cap], .nilIface]) ∧ ((w.heap.size ≤ q ∧ Mem.apart w' q k (.slice a k.len cap)) ∧ Mem.ownM w' q L) ∧ ((Pl.Fx.cons L k .nil).okX ∧ (Pl.Fx.cons L k .nil).flat = Is.map Pl.It.r) ∧ Mem.layX w' (fun b => w.heap.size ≤ b) k (.slice a k.len cap)) ∨
 (NN = none ∧ ∃ r x, e = .returned (.tuple #[.agg #[.map none, .int .i64 0, .slice none 0 0], .iface r x]) ∧ ((400 < Is.length ∧ r = r0 ∧ x = x0) ∨ (Is.length ≤ 400 ∧ r = r1 ∧ x = x1)))
set_option linter.unusedSimpArgs false in
set_option maxRecDepth 100000 in
set_option maxHeartbeats 1000000 in
theorem zk8 (a : Option Addr) (cap : Nat) (Is : List Pl.It) (w : World) (hl : Is.length ≤ 1048576) (hcap : Is.length ≤ cap) (hv : Mem.za6 w a Is) (hok : ∀ x ∈ Is, x.t.L.length ≤ 1048576 ∧ ∀ n ∈ x.t.L, n.path.size ≤ 1048576 ∧ n.data.size ≤ 1048576)
  (r0 r1 r2 r3 : TypeId) (x0 x1 x2 x3 : Value) (hE : zc0.zq3 w r0 r1 r2 r3 x0 x1 x2 x3) :
  Calls Tryz.prog 47 #[.slice a Is.length cap] w fun e w' => Nested w r0 r1 x0 x1 Is (Pl.nest (Pl.rowO (Is.map Pl.It.r))) e w' ∧ Below w.heap.size w w' := by
 have hrl : (Pl.rowO (Is.map Pl.It.r)).length = Is.length := by rw [Pl.zi5, List.length_map]
 have b0 : Below w.heap.size w (w.alloc (.cells #[.map none, .int .i64 0, .slice none 0 0] 74)) := (Below.refl _ _).alloc (Nat.le_refl _) _
 have A0 := Mem.Blk.new w #[.map none, .int .i64 0, .slice none 0 0] 74
 have k0 := (hE.call b0).c0
 have k1 := (hE.call b0).three.c1
 by_cases h400 : 400 < Is.length
 ·have t0 : (400 : Int) < (Is.length : Int) := by omega
  rw [Pl.zo6 _ (by omega)]
  have HB0 := hide b0
  clear hv hok hE b0 A0 hrl
  go_enter Tryz.func47, Tryz.ntmps47
  go_wp2
  go_region
  go_wp2
  refine bodyPost_ret (v := .tuple #[.agg #[.map none, .int .i64 0, .slice none 0 0], .iface r0 x0]) (by simp [results, Tryz.results47, go_sem]) rfl ⟨Or.inr ⟨rfl, _, _, rfl, .inl ⟨h400, rfl, rfl⟩⟩, ?_⟩
  exact Mem.below_drewN (za HB0) 1
 have t0 : ¬ (400 : Int) < (Is.length : Int) := by omega
 by_cases h12 : 12 < Is.length
 ·have t1 : (12 : Int) < (Is.length : Int) := by omega
  rw [Pl.zo6 _ (by omega)]
  have HB0 := hide b0
  clear hv hok hE b0 A0 hrl
  go_enter Tryz.func47, Tryz.ntmps47
  go_wp2
  go_region
  go_wp2
  refine bodyPost_ret (v := .tuple #[.agg #[.map none, .int .i64 0, .slice none 0 0], .iface r1 x1]) (by simp [results, Tryz.results47, go_sem]) rfl ⟨Or.inr ⟨rfl, _, _, rfl, .inr ⟨by omega, rfl, rfl⟩⟩, ?_⟩
  exact Mem.below_drewN (za HB0) 1
 have t1 : ¬ (12 : Int) < (Is.length : Int) := by omega
 have hz := hide (yh6 r1 r2 r3 x1 x2 x3 12 Is a cap _ (by omega) (by omega) hcap (Mem.zc1 hv b0) hok (hE.call b0).three)
 have n1 : 1 < w.heap.size := World.block_lt_of_cell? w ⟨_, 0, none⟩ hE.three.c1
 have n2 : ¬ w.heap.size = 1 := by omega
 have n3 : ¬ 1 = w.heap.size := by omega
 have HE := hide (fun W (b : Below w.heap.size w W) => (hE.call b).three.c1)
 have HRL := hide hrl
 generalize Pl.rowO (Is.map Pl.It.r) = LL at hz HRL ⊢
 generalize hNN : Pl.nest LL = NN
 have HNN := hide hNN
 clear hv hok hE k0 k1 hrl hNN
 go_enter Tryz.func47, Tryz.ntmps47
 go_wp2_with fail
 generalize w.alloc (.cells #[.map none, .int .i64 0, .slice none 0 0] 74) = w2 at b0 A0 hz ⊢
 refine (za hz).mono ?_
 rintro e w1 ⟨h1, b1⟩
 have bw1 := b0.trans (b1.mono b0.size)
 have A1 := A0.call b1
 have HWW : Hid (w.heap.size < w2.heap.size) := hide A0.lt
 clear hz b1 A0 b0
 rcases h1 with ⟨L, kids, q, v, k, a', cap', ht, rfl, hk, hkl, hc, -, ⟨⟨hqw, hap⟩, hqm⟩, hfl, hlay⟩ | ⟨ht, rfl⟩
 ·obtain ⟨va, vcap, rfl, hrest⟩ := hlay
  have hlen : (Is.drop k).length = Is.length - k := List.length_drop
  have hR : (Pl.rowO ((Is.drop k).map Pl.It.r)).length = Is.length - k := by rw [Pl.zi5, List.length_map, hlen]
  have hsz := Pl.take_sz ht
  simp only [Pl.Fo.sz] at hsz
  have A2 := A1.alloc (.cells #[.map (some q), .int .i64 (kids.len : Int), .slice va kids.len vcap] 74)
  have X2 := Mem.Blk.new w1 #[.map (some q), .int .i64 (kids.len : Int), .slice va kids.len vcap] 74
  have bA : Below w1.heap.size w1 (w1.alloc (.cells #[.map (some q), .int .i64 (kids.len : Int), .slice va kids.len vcap] 74)) := (Below.refl _ _).alloc (Nat.le_refl _) _
  have bw2 := bw1.trans (bA.mono bw1.size)
  have HL : Hid (Mem.layX (w1.alloc (.cells #[.map (some q), .int .i64 (kids.len : Int), .slice va kids.len vcap] 74)) (fun b => w2.heap.size ≤ b) kids (.slice va kids.len vcap)) := hide (Mem.zt5 ⟨va, vcap, rfl, hrest⟩ bA)
  have HAP := hide (Mem.yv8 ⟨va, vcap, rfl, hrest⟩ hap bA)
  have HQM := hide (hqm.call bA)
  have HFL := hide hfl
  have HLD : Hid ((Is.drop k).length = Is.length - k) := hlen
  have HQW := hide hqw
  clear hqm hfl hqw hap
  rw [hlen]
  have hkk : Is.length - k ≤ 12 := by omega
  generalize Is.length - k = rest at hR hkk HLD ⊢
  by_cases hr0 : 0 < rest
  ·have u1 : (0 : Int) < (rest : Int) := by omega
   have hno : Hid (NN = none) := hide (by rw [← za HNN]; exact Pl.nest_rest ht (by omega))
   have e1 := za HE _ bw2
   have c20 := A2.cell 0
   have c21 := A2.cell 1
   have c22 := A2.cell 2
   have f20 := A2.fr 0
   have f21 := A2.fr 1
   have f22 := A2.fr 2
   simp only [kGs] at c20 c21 c22
   have BB := hide bw2
   clear A1 A2 X2 bA HL hrest bw1 bw2 HNN HE ht hlen
   go_wp2
   go_region
   go_wp2
   refine bodyPost_ret (v := .tuple #[.agg #[.map none, .int .i64 0, .slice none 0 0], .iface r1 x1]) (by simp [results, Tryz.results47, go_sem, c20, c21, c22]) rfl ⟨Or.inr ⟨za hno, _, _, rfl, .inr ⟨by omega, rfl, rfl⟩⟩, ?_⟩
   first | exact Mem.below_drewN (za BB) 1 | exact (((Mem.below_drewN (za BB) 1).setCell (Nat.le_refl _) _).setCell (Nat.le_refl _) _).setCell (Nat.le_refl _) _
  have u1 : ¬ (0 : Int) < (rest : Int) := by omega
  have hdz := kids.shape.yg1
  have hcall := hide (zc0.yd3 _ 1000 (Nat.le_refl _) kids.shape (some q) (kids.len : Int) _ _ (by have := za HRL; omega) (Mem.layX_lay (za HL)))
  go_wp2_with fail
  generalize w1.alloc (.cells #[.map (some q), .int .i64 (kids.len : Int), .slice va kids.len vcap] 74) = w3 at bA bw2 HL HAP HQM A2 X2 hcall ⊢
  refine (za hcall).mono ?_
  rintro e w4 ⟨rfl, b4⟩
  have bw4 := bw2.trans (b4.mono bw2.size)
  have A4 := A2.call b4
  have X4 := X2.call b4
  have HL4 : Hid (Mem.layX w4 (fun b => w2.heap.size ≤ b) kids (.slice va kids.len vcap)) := hide (Mem.zt5 (za HL) b4)
  have HQ4 := hide ((za HQM).call b4)
  have HA4 := hide (Mem.yv8 (za HL) (za HAP) b4)
  clear HQM HAP
  have c20 := A4.cell 0
  have c21 := A4.cell 1
  have c22 := A4.cell 2
  have f20 := A4.fr 0
  have f21 := A4.fr 1
  have f22 := A4.fr 2
  have c40 := X4.cell 0
  have c41 := X4.cell 1
  have c42 := X4.cell 2
  simp only [kGs] at c20 c21 c22 c40 c41 c42
  have hs1 : w2.heap.size ≤ w1.heap.size ∨ True := .inr trivial
  clear hcall HL b4 A2 X2 A4 X4 hrest hs1
  by_cases h4 : 4 < kids.shape.depth + 1
  ·have u2 : (4 : Int) < (kids.shape.depth : Int) + 1 := by omega
   have hno : Hid (NN = none) := hide (by rw [← za HNN]; exact Pl.nest_deep ht h4)
   have e1 := za HE _ bw4
   have BB := hide bw4
   clear A1 bA bw1 bw2 HNN HE ht hlen bw4 HL4
   go_wp2
   go_region
   go_wp2
   refine bodyPost_ret (v := .tuple #[.agg #[.map none, .int .i64 0, .slice none 0 0], .iface r1 x1]) (by simp [results, Tryz.results47, go_sem, c20, c21, c22]) rfl ⟨Or.inr ⟨za hno, _, _, rfl, .inr ⟨by omega, rfl, rfl⟩⟩, ?_⟩
   first | exact Mem.below_drewN (za BB) 1 | exact (((Mem.below_drewN (za BB) 1).setCell (Nat.le_refl _) _).setCell (Nat.le_refl _) _).setCell (Nat.le_refl _) _
  ·have u2 : ¬ (4 : Int) < (kids.shape.depth : Int) + 1 := by omega
   have hyes : Hid (NN = some kids.shape) := hide (by rw [← za HNN]; exact Pl.nest_ok (by have := za HRL; omega) ht (by omega) h4)
   have HW2 : Hid (w.heap.size < w2.heap.size) := HWW
   have BB := hide bw4
   clear A1 bA bw1 bw2 HNN HE ht hlen bw4
   go_wp2
   refine bodyPost_ret (v := .tuple #[.agg #[.map (some q), .int .i64 (kids.len : Int), .slice va kids.len vcap], .nilIface]) (by simp [results, Tryz.results47, go_sem, c20, c21, c22]) rfl ⟨Or.inl ⟨L, kids, q, va, vcap, za hyes, rfl, ?_, ?_, ?_⟩, ?_⟩
   ·have h1 := za HW2
    have h2 := za HQW
    exact ⟨⟨by omega, Mem.yw5 (fun b hb hlt => by rw [heap_setCell_other _ _ _ _ (by show b ≠ w.heap.size; omega), heap_setCell_other _ _ _ _ (by show b ≠ w.heap.size; omega), heap_setCell_other _ _ _ _ (by show b ≠ w.heap.size; omega)]) (za HL4) (za HA4)⟩, (((za HQ4).set _ _ (by show q ≠ w.heap.size; omega)).set _ _ (by show q ≠ w.heap.size; omega)).set _ _ (by show q ≠ w.heap.size; omega)⟩
   ·have h3 := za HFL
    have h4 : Is.drop k = [] := List.eq_nil_of_length_eq_zero (by have := za HLD; omega)
    rw [h4, List.map_nil, List.append_nil] at h3
    exact h3
   ·refine Mem.zq7 (fun b hb hlt => ⟨?_, by simpa using hlt, ?_⟩) (za HL4)
    ·have := za HW2; omega
    ·have := za HW2
     rw [heap_setCell_other _ _ _ _ (by show b ≠ w.heap.size; omega), heap_setCell_other _ _ _ _ (by show b ≠ w.heap.size; omega), heap_setCell_other _ _ _ _ (by show b ≠ w.heap.size; omega)]
   ·exact (((za BB).setCell (Nat.le_refl _) _).setCell (Nat.le_refl _) _).setCell (Nat.le_refl _) _
 ·have hno : Hid (NN = none) := hide (by rw [← za HNN]; exact Pl.nest_fail ht)
  have A2 := A1.alloc (.cells #[.map none, .int .i64 0, .slice none 0 0] 74)
  have bw2 := bw1.alloc bw1.size (.cells #[.map none, .int .i64 0, .slice none 0 0] 74)
  have c20 := A2.cell 0
  have c21 := A2.cell 1
  have c22 := A2.cell 2
  have f20 := A2.fr 0
  have f21 := A2.fr 1
  have f22 := A2.fr 2
  simp only [kGs] at c20 c21 c22
  have BB := hide bw2
  clear A1 A2 bw1 bw2 HNN HE ht
  go_wp2
  refine bodyPost_ret (v := .tuple #[.agg #[.map none, .int .i64 0, .slice none 0 0], .iface r1 x1]) (by simp [results, Tryz.results47, go_sem, c20, c21, c22]) rfl ⟨Or.inr ⟨za hno, _, _, rfl, .inr ⟨by omega, rfl, rfl⟩⟩, ?_⟩
  first | exact za BB | exact (((za BB).setCell (Nat.le_refl _) _).setCell (Nat.le_refl _) _).setCell (Nat.le_refl _) _
end zr9
end Go.Proofs.YtfdbokipgofcdaaGreatDoor

namespace Go.Proofs.YtfdbokipgofcdaaGreatDoor
open Go.RowKit
namespace WFlat
def Outs (w w' : World) (C : Int) (O : List (Int × List Pl.Nd)) (e : Ending) : Prop := ∃ v Is, e = .returned (.agg #[v, .int .i64 C]) ∧ Mem.Io w' w.heap.size v Is ∧ Is.map Pl.It.r = O
set_option linter.unusedSimpArgs false in
set_option maxRecDepth 100000 in
set_option maxHeartbeats 1000000 in
theorem yt2 (a : Option Addr) (cap : Nat) (Is : List Pl.It) (w : World) (hl : Is.length ≤ 1048576) (hcap : Is.length ≤ cap) (hv : Mem.za6 w a Is) (hok : ∀ x ∈ Is, x.t.L.length ≤ 1048576 ∧ ∀ n ∈ x.t.L, n.path.size ≤ 1048576 ∧ n.data.size ≤ 1048576) (x : Nat → Addr) (hE : WIs.Six w x) :
  Calls Tryz.prog 24 #[.slice a Is.length cap] w fun e w' => Outs w w' (Pl.zh1 (Is.map Pl.It.r)) (Pl.ze3 (Is.map Pl.It.r)) e ∧ Below w.heap.size w w' := by
 have b0 : Below w.heap.size w (w.alloc (.cells #[.slice none 0 0, .int .i64 0] 28)) := (Below.refl _ _).alloc (Nat.le_refl _) _
 have V0 := Mem.Blk.new w #[.slice none 0 0, .int .i64 0] 28
 have hs0 : (w.alloc (.cells #[.slice none 0 0, .int .i64 0] 28)).heap.size = w.heap.size + 1 := by simp
 have hxl : (Is.map Pl.It.r).length = Is.length := List.length_map ..
 have hno := hide (zr9.zk8 a cap Is (w.alloc (.cells #[.slice none 0 0, .int .i64 0] 28)) hl hcap (Mem.zc1 hv b0) hok _ _ _ _ _ _ _ _ (zt9.six4 (hE.call b0)))
 have HE := hide (fun W (b : Below w.heap.size w W) => hE.call b)
 have HVL : Hid (400 < Is.length → Pl.zh1 (Is.map Pl.It.r) = 2 ∧ Pl.ze3 (Is.map Pl.It.r) = []) := fun h => Pl.yc9 (by omega)
 have HVB : Hid (¬ 400 < Is.length → Pl.nest (Pl.rowO (Is.map Pl.It.r)) = none → Pl.zh1 (Is.map Pl.It.r) = 1 ∧ Pl.ze3 (Is.map Pl.It.r) = []) := fun h1 h2 => Pl.yh7 (by omega) h2
 have HVN : Hid (∀ L k, Pl.nest (Pl.rowO (Is.map Pl.It.r)) = some (Pl.Fx.shape k) → (Pl.Fx.cons L k .nil).flat = Is.map Pl.It.r → k.flatK = none → Pl.zh1 (Is.map Pl.It.r) = 10 ∧ Pl.ze3 (Is.map Pl.It.r) = []) := fun L k h1 h2 h3 => Pl.yc (Pl.zj3 h1) (Pl.zu8 h1 h2) h3
 have HVS : Hid (∀ L k K, Pl.nest (Pl.rowO (Is.map Pl.It.r)) = some (Pl.Fx.shape k) → (Pl.Fx.cons L k .nil).flat = Is.map Pl.It.r → k.flatK = some K → Pl.zh1 (Is.map Pl.It.r) = 0 ∧ Pl.ze3 (Is.map Pl.It.r) = ((K.len : Int), []) :: K.flat) := fun L k K h1 h2 h3 => Pl.zy1 (Pl.zj3 h1) (Pl.zu8 h1 h2) h3
 have HSZ : Hid (∀ L k, Pl.nest (Pl.rowO (Is.map Pl.It.r)) = some (Pl.Fx.shape k) → (Pl.Fx.cons L k .nil).flat = Is.map Pl.It.r → k.sz ≤ 12) := fun L k h1 h2 => by
  have h3 := Pl.zj3 h1
  have h4 := congrArg List.length h2
  rw [Pl.Fx.zk6, Pl.Fx.sz] at h4
  omega
 generalize Pl.zh1 (Is.map Pl.It.r) = C at HVL HVB HVN HVS ⊢
 generalize Pl.ze3 (Is.map Pl.It.r) = O at HVL HVB HVN HVS ⊢
 generalize Pl.nest (Pl.rowO (Is.map Pl.It.r)) = NN at hno HVB HVN HVS HSZ
 clear hv hok hE hxl
 go_enter Tryz.func24, Tryz.ntmps24
 go_wp2_with fail
 generalize w.alloc (.cells #[.slice none 0 0, .int .i64 0] 28) = w2 at b0 V0 hs0 hno ⊢
 refine (za hno).mono ?_
 rintro e w1 ⟨hN, b1⟩
 have bw1 := b0.trans (b1.mono b0.size)
 have V1 := V0.call b1
 have hs1 := b1.size
 clear hno b0 V0
 rcases hN with ⟨L, k, q, a1, cap1, hNN, rfl, ⟨-, hqm⟩, ⟨hko, hfl⟩, hlay⟩ | ⟨hNN, r, y, rfl, hwhy⟩
 rotate_left
 ·have V2 := V1.alloc (.cells #[.map none, .int .i64 0, .slice none 0 0] 74)
  have bw2 := bw1.alloc bw1.size (.cells #[.map none, .int .i64 0, .slice none 0 0] 74)
  rcases hwhy with ⟨h4, rfl, rfl⟩ | ⟨h4, rfl, rfl⟩
  ·obtain ⟨rfl, rfl⟩ := za HVL h4
   have hcd := hide (WIs.code0 x _ (za HE _ bw2))
   clear V1 bw1 HVL HVB HVN HVS HSZ hNN
   go_wp2_with fail
   refine (za hcd).mono ?_
   rintro e w3 ⟨rfl, hw3⟩
   subst w3
   have HB := hide bw2
   have d0 := V2.cell 0
   have d1 := V2.cell 1
   have f0 := V2.fr 0
   have f1 := V2.fr 1
   simp only [kGs] at d0 d1
   clear hcd V2 bw2
   go_wp2
   refine bodyPost_ret (v := .agg #[.slice none 0 0, .int .i64 2]) (by simp [results, Tryz.results24, go_sem, d0, d1]) rfl ⟨⟨_, [], rfl, Mem.Io.nil _ _, rfl⟩, ?_⟩
   first | exact ((za HB).setCell (Nat.le_refl _) _).setCell (Nat.le_refl _) _ | exact (za HB).setCell (Nat.le_refl _) _
  ·obtain ⟨rfl, rfl⟩ := za HVB (by omega) hNN
   have hcd := hide (WIs.code1 x _ (za HE _ bw2))
   clear V1 bw1 HVL HVB HVN HVS HSZ hNN
   go_wp2_with fail
   refine (za hcd).mono ?_
   rintro e w3 ⟨rfl, hw3⟩
   subst w3
   have HB := hide bw2
   have d0 := V2.cell 0
   have d1 := V2.cell 1
   have f0 := V2.fr 0
   have f1 := V2.fr 1
   simp only [kGs] at d0 d1
   clear hcd V2 bw2
   go_wp2
   refine bodyPost_ret (v := .agg #[.slice none 0 0, .int .i64 1]) (by simp [results, Tryz.results24, go_sem, d0, d1]) rfl ⟨⟨_, [], rfl, Mem.Io.nil _ _, rfl⟩, ?_⟩
   first | exact ((za HB).setCell (Nat.le_refl _) _).setCell (Nat.le_refl _) _ | exact (za HB).setCell (Nat.le_refl _) _
 have V2 := V1.alloc (.cells #[.map (some q), .int .i64 (k.len : Int), .slice a1 k.len cap1] 74)
 have bw2 := bw1.alloc bw1.size (.cells #[.map (some q), .int .i64 (k.len : Int), .slice a1 k.len cap1] 74)
 have bA : Below w1.heap.size w1 (w1.alloc (.cells #[.map (some q), .int .i64 (k.len : Int), .slice a1 k.len cap1] 74)) := (Below.refl _ _).alloc (Nat.le_refl _) _
 have X2 := Mem.Blk.new w1 #[.map (some q), .int .i64 (k.len : Int), .slice a1 k.len cap1] 74
 have x0 := X2.cell 0
 have x1 := X2.cell 1
 have x2 := X2.cell 2
 simp only [kGs] at x0 x1 x2
 have hlf := hide (flat_any _ k (some q) (k.len : Int) _ _ hko.2.2.1 hko.2.2.2.1 (Mem.zt5 hlay bA))
 have HKO := hide (fun K (h : k.flatK = some K) => Pl.yn hko.2.2.2.1 h)
 have hkz := za HSZ L k hNN hfl
 have HN2 := hide (fun h => za HVN L k hNN hfl h)
 have HS2 := hide (fun K h => za HVS L k K hNN hfl h)
 clear hqm hko hfl hlay bA X2 V1 bw1 HVL HVB HVN HVS HSZ hNN
 go_wp2_with fail
 generalize w1.alloc (.cells #[.map (some q), .int .i64 (k.len : Int), .slice a1 k.len cap1] 74) = w4 at V2 bw2 hlf x0 x1 x2 ⊢
 refine (za hlf).mono ?_
 rintro e w5 ⟨hX, b5⟩
 have bw5 := bw2.trans (b5.mono bw2.size)
 have V5 := V2.call b5
 clear hlf x0 x1 x2
 rcases hX with ⟨K', a5, cap5, hV, rfl, hl5⟩ | ⟨hV, rfl⟩
 ·obtain ⟨rfl, rfl⟩ := za HS2 K' hV
  obtain ⟨o1, o2, o3, -, -, -⟩ := za HKO K' hV
  have V6 := V5.alloc (.cells #[.map none, .int .i64 (K'.len : Int), .slice a5 K'.len cap5] 74)
  have bw6 := bw5.alloc bw5.size (.cells #[.map none, .int .i64 (K'.len : Int), .slice a5 K'.len cap5] 74)
  have X6 := Mem.Blk.new w5 #[.map none, .int .i64 (K'.len : Int), .slice a5 K'.len cap5] 74
  have x0 := X6.cell 0
  have x1 := X6.cell 1
  have x2 := X6.cell 2
  simp only [kGs] at x0 x1 x2
  have hri := hide (WItemsOf.items_of 1000 (Nat.le_refl _) (fun _ => True) K' [] none (K'.len : Int) (.slice a5 K'.len cap5) (w5.alloc (.cells #[.map none, .int .i64 (K'.len : Int), .slice a5 K'.len cap5] 74)) (by omega) rfl o1 (.inr ⟨rfl, rfl⟩) (Mem.zt5 hl5 ((Below.refl _ _).alloc (Nat.le_refl _) _)))
  clear V2 V5 bw2 bw5 b5 HKO HN2 HS2 hV hl5 X6 o1
  go_wp2_with fail
  generalize w5.alloc (.cells #[.map none, .int .i64 (K'.len : Int), .slice a5 K'.len cap5] 74) = w6 at V6 bw6 hri x0 x1 x2 ⊢
  refine (za hri).mono ?_
  rintro e w7 ⟨v7, Js, rfl, io7, hr7, b7⟩
  obtain ⟨a7, c7, rfl⟩ := Mem.za1 io7.row
  have hR := V6.lt
  have V7 := V6.call b7
  have OW := hide (((io7.set ⟨w.heap.size, 0, none⟩ (.slice a7 Js.length c7) (by show w.heap.size < _; omega)).set ⟨w.heap.size, 1, none⟩ (.int .i64 0) (by show w.heap.size < _; omega)).mono (show w.heap.size ≤ w6.heap.size by omega))
  have HR7 := hide hr7
  have HB := hide (bw6.trans (b7.mono bw6.size))
  have d0 := V7.cell 0
  have d1 := V7.cell 1
  have f0 := V7.fr 0
  have f1 := V7.fr 1
  simp only [kGs] at d0 d1
  clear hri io7 b7 V6 V7 bw6 x0 x1 x2 hr7
  go_wp2
  refine bodyPost_ret (v := .agg #[.slice a7 Js.length c7, .int .i64 0]) (by simp [results, Tryz.results24, go_sem, d0, d1]) rfl ⟨⟨_, Js, rfl, za OW, za HR7⟩, ?_⟩
  exact ((za HB).setCell (Nat.le_refl _) _).setCell (Nat.le_refl _) _
 ·obtain ⟨rfl, rfl⟩ := za HN2 hV
  have V2 := V5.alloc (.cells #[.map none, .int .i64 0, .slice none 0 0] 74)
  have HB := hide (bw5.alloc bw5.size (.cells #[.map none, .int .i64 0, .slice none 0 0] 74))
  have d0 := V2.cell 0
  have d1 := V2.cell 1
  have f0 := V2.fr 0
  have f1 := V2.fr 1
  simp only [kGs] at d0 d1
  clear V5 bw5 b5 HKO HN2 HS2 hV V2
  go_wp2
  refine bodyPost_ret (v := .agg #[.slice none 0 0, .int .i64 10]) (by simp [results, Tryz.results24, go_sem, d0, d1]) rfl ⟨⟨_, [], rfl, Mem.Io.nil _ _, rfl⟩, ?_⟩
  first | exact ((za HB).setCell (Nat.le_refl _) _).setCell (Nat.le_refl _) _ | exact (za HB).setCell (Nat.le_refl _) _
set_option maxRecDepth 100000 in
theorem can_any (a : Option Addr) (cap : Nat) (Is : List Pl.It) (w : World) (hl : Is.length ≤ 1048576) (hcap : Is.length ≤ cap) (hv : Mem.za6 w a Is) (hok : ∀ x ∈ Is, x.t.L.length ≤ 1048576 ∧ ∀ n ∈ x.t.L, n.path.size ≤ 1048576 ∧ n.data.size ≤ 1048576) (x : Nat → Addr) (hE : WIs.Six w x) :
  Calls Tryz.prog 26 #[.slice a Is.length cap] w fun e w' => e = .returned (.bool (decide (Pl.zh1 (Is.map Pl.It.r) = 0))) ∧ Below w.heap.size w w' := by
 have hf := hide (yt2 a cap Is w hl hcap hv hok x hE)
 generalize Pl.zh1 (Is.map Pl.It.r) = C at hf ⊢
 generalize Pl.ze3 (Is.map Pl.It.r) = O at hf
 clear hv hok hE
 go_enter Tryz.func26, Tryz.ntmps26
 go_wp2_with fail
 refine (za hf).mono ?_
 rintro e w1 ⟨⟨v, Js, rfl, io, -⟩, b1⟩
 obtain ⟨a1, c1, rfl⟩ := Mem.za1 io.row
 have hfd : ∀ W, (Instr.field 28 (.agg #[.slice a1 Js.length c1, .int .i64 C]) 1).run Tryz.prog W = .ok (.int .i64 C) W := fun _ => by kernel_rfl
 clear hf io
 by_cases hC : C = 0
 ·subst hC
  go_wp2
  go_ret
  exact ⟨rfl, b1⟩
 ·have h1 : (C == 0) = false := by simpa using hC
  have h2 : decide (C = 0) = false := by simpa using hC
  go_wp2
  go_ret
  exact ⟨za4 h2.symm, b1⟩
end WFlat
end Go.Proofs.YtfdbokipgofcdaaGreatDoor

namespace Go.Proofs.YtfdbokipgofcdaaGreatDoor
open Go.RowKit
namespace zn4
theorem sizeI (w : World) : (sizeOf 38).run Tryz.prog w = .ok 2 w := by kernel_rfl
set_option linter.unusedSimpArgs false in
set_option maxRecDepth 100000 in
set_option maxHeartbeats 2000000 in
theorem flat_any (b o cap : Nat) (Is : List Pl.It) (w : World) (hl : Is.length ≤ 1048576) (hv : Mem.za6 w (some ⟨b, o, none⟩) Is) (hok : ∀ x ∈ Is, x.t.L.length ≤ 1048576 ∧ ∀ n ∈ x.t.L, n.path.size ≤ 1048576 ∧ n.data.size ≤ 1048576) (hR : ∀ x ∈ Is, Mem.okR x.t.a x.t.cap x.t.L) :
  Calls Tryz.prog 25 #[.slice (some ⟨b, o, none⟩) Is.length cap] w fun e w' => WFlat.Outs w w' (Pl.zh1 (Is.map Pl.It.r)) (Pl.ze3 (Is.map Pl.It.r)) e ∧ Below w.heap.size w w' := by
 have b0 : Below w.heap.size w (w.alloc (.cells #[.slice none 0 0, .int .i64 0] 28)) := (Below.refl _ _).alloc (Nat.le_refl _) _
 have V0 := Mem.Blk.new w #[.slice none 0 0, .int .i64 0] 28
 have hs0 : (w.alloc (.cells #[.slice none 0 0, .int .i64 0] 28)).heap.size = w.heap.size + 1 := by simp
 have hxl : (Is.map Pl.It.r).length = Is.length := List.length_map ..
 by_cases h400 : 400 < Is.length
 ·have t0 : (400 : Int) < (Is.length : Int) := by omega
  obtain ⟨e1, e2⟩ := Pl.yc9 (xs := Is.map Pl.It.r) (by omega)
  rw [e1, e2]
  clear e1 e2 hv hok hxl hR
  go_enter Tryz.func25, Tryz.ntmps25
  have d0 := V0.cell 0
  have d1 := V0.cell 1
  have f0 := V0.fr 0
  have f1 := V0.fr 1
  have HB := hide b0
  simp only [kGs] at d0 d1
  clear V0
  go_wp2
  refine bodyPost_ret (v := .agg #[.slice none 0 0, .int .i64 2]) (by simp [results, Tryz.results25, go_sem, d0, d1]) rfl ⟨⟨_, [], rfl, Mem.Io.nil _ _, rfl⟩, ?_⟩
  first | exact ((za HB).setCell (Nat.le_refl _) _).setCell (Nat.le_refl _) _ | exact (za HB).setCell (Nat.le_refl _) _ | exact (Below.refl _ _).alloc (Nat.le_refl _) _ | skip
 have t0 : ¬ (400 : Int) < (Is.length : Int) := by omega
 have hnr := hide (fun W (bb : Below w.heap.size w W) => zj2.zf4 (some ⟨b, o, none⟩) cap Is W hl (Mem.zc1 hv bb) hok)
 cases hF : Pl.nest (Pl.rowO (Is.map Pl.It.r)) with
 | none =>
  obtain ⟨e1, e2⟩ := Pl.yh7 (xs := Is.map Pl.It.r) (by omega) hF
  rw [e1, e2]
  rw [hF] at hnr
  clear e1 e2 hv hok hxl hF hR
  go_enter Tryz.func25, Tryz.ntmps25
  go_wp2_with fail
  refine (za hnr _ b0).mono ?_
  rintro e w1 ⟨rfl, b1⟩
  have bw1 := b0.trans (b1.mono b0.size)
  have V1 := V0.call b1
  clear hnr b0 V0 b1 hs0
  have d0 := V1.cell 0
  have d1 := V1.cell 1
  have f0 := V1.fr 0
  have f1 := V1.fr 1
  have HB := hide bw1
  simp only [kGs] at d0 d1
  clear V1
  go_wp2
  refine bodyPost_ret (v := .agg #[.slice none 0 0, .int .i64 1]) (by simp [results, Tryz.results25, go_sem, d0, d1]) rfl ⟨⟨_, [], rfl, Mem.Io.nil _ _, rfl⟩, ?_⟩
  first | exact ((za HB).setCell (Nat.le_refl _) _).setCell (Nat.le_refl _) _ | exact (za HB).setCell (Nat.le_refl _) _ | exact (Below.refl _ _).alloc (Nat.le_refl _) _ | skip
 | some F =>
  obtain ⟨L, k, hks, hfl, hko, hnx⟩ := Pl.zy2 hF
  have hl12 := Pl.zj3 hF
  rw [hF] at hnr
  have hd : k.shape.depth ≤ 3 := by rw [hks]; exact (Pl.zl5 hF).2.2
  have hla := hide (fun W (bb : Below w.heap.size w W) => last_any (some ⟨b, o, none⟩) cap Is (by omega) hok L k W hko hd hfl (Mem.zc1 hv bb))
  cases hK : k.flatK with
  | none =>
   rw [last_neg hK] at hla
   obtain ⟨e1, e2⟩ := Pl.yc hl12 hnx hK
   rw [e1, e2]
   clear e1 e2 hv hok hxl hF hks hfl hko hnx hK hd hR
   go_enter Tryz.func25, Tryz.ntmps25
   go_wp2_with fail
   refine (za hnr _ b0).mono ?_
   rintro e w1 ⟨rfl, b1⟩
   have bw1 := b0.trans (b1.mono b0.size)
   have V1 := V0.call b1
   clear hnr b0 V0 b1 hs0
   go_wp2_with fail
   refine (za hla _ bw1).mono ?_
   rintro e w2 ⟨rfl, b2⟩
   have bw2 := bw1.trans (b2.mono bw1.size)
   have V2 := V1.call b2
   clear hla bw1 V1 b2
   have d0 := V2.cell 0
   have d1 := V2.cell 1
   have f0 := V2.fr 0
   have f1 := V2.fr 1
   have HB := hide bw2
   simp only [kGs] at d0 d1
   clear V2
   go_wp2
   refine bodyPost_ret (v := .agg #[.slice none 0 0, .int .i64 10]) (by simp [results, Tryz.results25, go_sem, d0, d1]) rfl ⟨⟨_, [], rfl, Mem.Io.nil _ _, rfl⟩, ?_⟩
   first | exact ((za HB).setCell (Nat.le_refl _) _).setCell (Nat.le_refl _) _ | exact (za HB).setCell (Nat.le_refl _) _ | exact (Below.refl _ _).alloc (Nat.le_refl _) _ | skip
  | some K' =>
   rw [last_pos hK] at hla
   obtain ⟨e1, e2⟩ := Pl.zy1 hl12 hnx hK
   rw [e1, e2]
   obtain ⟨x0, x1, -, hx0, hx1, -, -, -, hm0, hm1, hsum, hk4, hk14, hk2, hkl⟩ := Pl.pick_flat hfl hko hK
   have HPK := hide (fun (Ds : List Pl.It) (h : Ds.map Pl.It.r = Is.map Pl.It.r) => Pl.pick_flat (hfl.trans h.symm) hko hK)
   generalize k.zb7.2.2.len = n1 at hm1 hsum hk14 HPK
   generalize k.len = n0 at hm0 hsum hk4 hk2 HPK
   generalize K'.len = n2 at hsum HPK ⊢
   generalize K'.flat = KF at HPK ⊢
   generalize 1 + k.zb7.1.sz = kk at hla hx1 hkl HPK
   have HX0 := hide (fun W (bb : Below w.heap.size w W) => (Mem.zc1 hv bb 0 x0 hx0).1)
   have HX1 := hide (fun W (bb : Below w.heap.size w W) => (Mem.zc1 hv bb kk x1 hx1).1)
   have u1 : ¬ (kk : Int) < 0 := by omega
   have u2 : (0 : Int) ≤ (kk : Int) := by omega
   have u3 : (kk : Int) < (Is.length : Int) := by omega
   have u4 : (0 : Int) < (Is.length : Int) := by omega
   have hcp := hide (fun W (bb : Below w.heap.size w W) => WCopy5.copy_any b o cap Is (by omega) (by omega) (fun x hx => by have := (Pl.Fx.ok_mem hko x.r (by rw [hfl]; exact List.mem_map.2 ⟨x, hx, rfl⟩)).1; unfold Pl.za2 at this; have h40 := of_decide_eq_true ((Bool.and_eq_true _ _).mp this).1; exact Nat.le_trans h40 (by decide)) hR W (Mem.zc1 hv bb))
   clear e1 e2 hv hok hF hks hfl hko hnx hK hd hR hx0 hx1
   go_enter Tryz.func25, Tryz.ntmps25
   go_wp2_with fail
   refine (za hnr _ b0).mono ?_
   rintro e w1 ⟨rfl, b1⟩
   have bw1 := b0.trans (b1.mono b0.size)
   have V1 := V0.call b1
   have hz1 := b1.size
   clear hnr b0 V0 b1
   go_wp2_with fail
   refine (za hla _ bw1).mono ?_
   rintro e w2 ⟨rfl, b2⟩
   have bw2 := bw1.trans (b2.mono bw1.size)
   have V2 := V1.call b2
   have hz2 := b2.size
   clear hla bw1 V1 b2
   go_wp2_with fail
   refine (za hcp _ bw2).mono ?_
   rintro e w3 ⟨g, cap3, Ds, rfl, hg, io3, hm3, b3⟩
   have bw3 := bw2.trans (b3.mono bw2.size)
   have V3 := V2.call b3
   have hz3 := b3.size
   have hDl : Ds.length = Is.length := by have := congrArg List.length hm3; rw [List.length_map, List.length_map] at this; exact this
   obtain ⟨d, -, Rs, -, -, hEs, hdL, hRs, -, -, -, -, -, -, -⟩ := za HPK Ds hm3
   have hcap : Is.length ≤ cap3 := by
    rcases io3.row.2 with ⟨e, _⟩ | ⟨q, c, cur, e, hb, hq, hc, hmm, hss, htt⟩
    ·cases e
    ·injection e with e3 e4 e5
     omega
   obtain ⟨i0, hi, hz0, hz1', hz2'⟩ := info_parts WCopy5.zu5
   have hS1 : ∀ W, (Instr.slice 23 (.slice (some ⟨g, 0, none⟩) Is.length cap3) none (some (.int .i64 (kk : Int))) none).run Tryz.prog W = .ok (.slice (some ⟨g, 0, none⟩) kk cap3) W := fun W => Mem.slice_hi Tryz.underlying23 sizeI W _ _ _ _ (by omega) (by omega)
   have hS2 : ∀ W, (Instr.slice 23 (.slice (some ⟨g, 0, none⟩) Is.length cap3) (some (.int .i64 ((kk : Int) + 1))) none none).run Tryz.prog W = .ok (.slice (some ⟨g, (kk + 1) * 2, none⟩) (Is.length - (kk + 1)) (cap3 - (kk + 1))) W := fun W => by
    have := Mem.slice_lo (P := Tryz.prog) Tryz.underlying23 sizeI W g Is.length cap3 (kk + 1) (by omega) hcap
    rw [Int.natCast_add] at this
    exact this
   have bA : Below w3.heap.size w3 (w3.alloc (.cells #[] 38)) := (Below.refl _ _).alloc (Nat.le_refl _) _
   have O0 : Hid ((w3.alloc (.cells #[] 38)).ownsRow w3.heap.size 38 2 (.slice (some ⟨w3.heap.size, 0, none⟩) 0 0) 0 []) := ⟨rfl, .inr ⟨w3.heap.size, 0, #[], rfl, Nat.le_refl _, heap_alloc_new _ _, Nat.le_refl _, Nat.zero_le _, rfl, rfl⟩⟩
   have HC1 : Hid (∀ j u, (Pl.zb9 (Ds.take kk))[j]? = some u → (w3.alloc (.cells #[] 38)).cell? ((⟨g, 0, none⟩ : Addr).add j) = some u) := fun j u hj => by
    have hlt := (List.getElem?_eq_some_iff.1 hj).1
    rw [Pl.zp3, List.length_take] at hlt
    refine World.ownsRow.cells (io3.call bA).row (g := g) rfl j u ?_
    rw [← Pl.cellsI_take Ds kk (by omega), List.getElem?_take, if_pos (by omega)] at hj
    exact hj
   have HC2 : Hid (∀ W, Below w3.heap.size w3 W → ∀ j u, (Pl.zb9 (Ds.drop (kk + 1)))[j]? = some u → W.cell? ((⟨g, (kk + 1) * 2, none⟩ : Addr).add j) = some u) := fun W bb j u hj => by
    rw [← Pl.cellsI_drop, List.getElem?_drop] at hj
    have h5 := World.ownsRow.cells (io3.call bb).row (g := g) rfl ((kk + 1) * 2 + j) u hj
    rw [Mem.add_lit] at h5
    have ea : (⟨g, (kk + 1) * 2, none⟩ : Addr).add j = ⟨g, (kk + 1) * 2 + j, none⟩ := by unfold Addr.add; split <;> simp_all
    rw [ea]
    exact h5
   have hT1 : (Ds.take kk).length = kk := by rw [List.length_take]; omega
   have hT2 : (Ds.drop (kk + 1)).length = Is.length - (kk + 1) := by rw [List.length_drop]; omega
   have HL1 : Hid ((Pl.zb9 (Ds.take kk)).length = kk * 2) := by rw [Pl.zp3, hT1]; rfl
   have HL2 : Hid ((Pl.zb9 (Ds.drop (kk + 1))).length = (Is.length - (kk + 1)) * 2) := by rw [Pl.zp3, hT2]; rfl
   have HIO := hide io3
   have HEQ := hide hEs
   have HRS := hide hRs
   have HDL := hide hdL
   have HTT := hide (And.intro hT1 hT2)
   clear hcp io3 hm3 V2 b3 bw2 HPK hEs hRs hdL hT1 hT2 hxl
   go_wp2_with (at_builtin; refine Mem.zb0 _ rfl _ _ 23 rfl w3.heap.size 38 i0 (.agg #[.int .i64 0, .slice none 0 0]) 2 32 Tryz.underlying23 hi hz0 hz1' hz2' rfl (by decide) _ _ _ rfl (za O0) ⟨g, 0, none⟩ kk cap3 (Pl.zb9 (Ds.take kk)) rfl (za HL1) (za HC1) (Pl.zv5 _) (by unfold maxLen; omega) (by omega) (by simp) ?_)
   intro v1 w5 own1 gr1 far1
   obtain ⟨a5, c5, rfl⟩ := Mem.za1 own1
   have bB : Below w3.heap.size w3 w5 := bA.grown gr1 (by simp) (fun q hq => by cases hq; exact Nat.le_refl _)
   have O1 := hide own1
   have HC3 := hide (za HC2 w5 bB)
   have hz5 := bB.size
   clear own1 gr1 far1 O0 HC1 HC2 bA
   go_wp2_with (at_builtin; refine Mem.zb0 _ rfl _ _ 23 rfl w3.heap.size 38 i0 (.agg #[.int .i64 0, .slice none 0 0]) 2 32 Tryz.underlying23 hi hz0 hz1' hz2' rfl (by decide) _ _ _ rfl (za O1) ⟨g, (kk + 1) * 2, none⟩ (Is.length - (kk + 1)) (cap3 - (kk + 1)) (Pl.zb9 (Ds.drop (kk + 1))) rfl (za HL2) (za HC3) (Pl.zv5 _) (by unfold maxLen; omega) (by omega) (by omega) ?_)
   intro v2 w6 own2 gr2 far2
   have bC : Below w3.heap.size w3 w6 := bB.grown gr2 hz5 (fun q hq => (World.ownsRow.lt (za O1) q hq).1)
   have hn2 : kk + (Is.length - (kk + 1)) = (d :: Rs).length := by rw [← za HEQ, List.length_append, (za HTT).1, (za HTT).2]
   rw [← Pl.zg0, za HEQ, hn2] at own2
   have io6 := (za HIO).pick bC hz3 own2 (fun i => if i < kk then i else i + 1) (Pl.pick_inj kk) (fun i x hx => by
    rw [← za HEQ] at hx
    exact Pl.pick_get hx (by omega))
   have hsh : ∃ g2 cap2, v2 = .slice (some ⟨g2, 0, none⟩) (d :: Rs).length cap2 := by
    obtain ⟨g2, cap2, e, -⟩ := io6.there (by simp)
    exact ⟨g2, cap2, e⟩
   obtain ⟨g2, cap2, rfl⟩ := hsh
   obtain ⟨k0, f0⟩ := Mem.own_cell io6.row (k := 0) (u := .int .i64 d.m) rfl
   have bw6 := bw3.trans (bC.mono bw3.size)
   obtain ⟨b', o', e, -, q0, -⟩ := za HX0 w6 bw6
   cases e
   obtain ⟨b', o', e, -, q1, -⟩ := za HX1 w6 bw6
   cases e
   rw [hm0] at q0
   rw [hm1] at q1
   simp only [Nat.zero_mul, Nat.add_zero] at q0
   have hg2 := (World.ownsRow.lt io6.row g2 rfl)
   have hz6 := bC.size
   have V6 := V3.call bC
   have hgw : w.heap.size < g2 := by omega
   have W1 := io6.many (n2 : Int)
   have VS : Mem.Blk (w6.setCell ⟨g2, 0, none⟩ (.int .i64 (n2 : Int))) w.heap.size #[.slice none 0 0, .int .i64 0] 28 := (heap_setCell_other _ _ _ _ (by show w.heap.size ≠ g2; omega)).trans V6
   have BS := bw6.setCell (p := ⟨g2, 0, none⟩) (Nat.le_of_lt hgw) (.int .i64 (n2 : Int))
   have HW := hide W1
   have HBS := hide BS
   have HVS := hide VS
   have hl0 : (0 : Int) < ((d :: Rs).length : Int) := by rw [List.length_cons]; omega
   generalize hln : (d :: Rs).length = ln at *
   clear own2 gr2 far2 O1 HC3 W1 BS VS bB bC V3 V6 HIO HEQ HTT HL1 HL2 HX0 HX1 io6 hS1 hS2 bw3 bw6
   go_wp2_with fail
   go_region
   generalize w6.setCell ⟨g2, 0, none⟩ (.int .i64 (n2 : Int)) = w7 at HW HBS HVS ⊢
   have bD : Below w7.heap.size w7 w7.drew := Mem.below_drewN (Below.refl _ _) 1
   have V7 := (za HVS).call bD
   have HB7 := hide ((za HBS).trans (bD.mono (za HBS).size))
   have IO7 := hide (((((za HW).call bD).set ⟨w.heap.size, 0, none⟩ (.slice (some ⟨g2, 0, none⟩) ln cap2) (by show w.heap.size < _; omega)).set ⟨w.heap.size, 1, none⟩ (.int .i64 0) (by show w.heap.size < _; omega)).mono (show w.heap.size ≤ w2.heap.size by omega))
   generalize w7.drew = w8 at V7 HB7 IO7 ⊢
   have d0 := V7.cell 0
   have d1 := V7.cell 1
   have f0 := V7.fr 0
   have f1 := V7.fr 1
   simp only [kGs] at d0 d1
   have HMM : Hid (((⟨(n2 : Int), d.t⟩ : Pl.It) :: Rs).map Pl.It.r = ((n2 : Int), []) :: KF) := hide (by
    rw [List.map_cons, za HRS]
    show ((n2 : Int), d.t.L) :: KF = _
    rw [za HDL])
   clear HW HBS HVS bD V7 k0 q0 q1
   go_wp2
   refine bodyPost_ret (v := .agg #[.slice (some ⟨g2, 0, none⟩) ln cap2, .int .i64 0]) (by simp [results, Tryz.results25, go_sem, d0, d1]) rfl ⟨⟨_, _, rfl, za IO7, za HMM⟩, ?_⟩
   exact ((za HB7).setCell (Nat.le_refl _) _).setCell (Nat.le_refl _) _
end zn4
end Go.Proofs.YtfdbokipgofcdaaGreatDoor

namespace Go.Proofs.YtfdbokipgofcdaaGreatDoor
open Go.RowKit
namespace zn4
set_option linter.unusedSimpArgs false in
set_option maxRecDepth 100000 in
set_option maxHeartbeats 2000000 in
theorem flat_nil (a : Option Addr) (cap : Nat) (w : World) :
  Calls Tryz.prog 25 #[.slice a 0 cap] w fun e w' => WFlat.Outs w w' (Pl.zh1 []) (Pl.ze3 []) e ∧ Below w.heap.size w w' := by
 have b0 : Below w.heap.size w (w.alloc (.cells #[.slice none 0 0, .int .i64 0] 28)) := (Below.refl _ _).alloc (Nat.le_refl _) _
 have V0 := Mem.Blk.new w #[.slice none 0 0, .int .i64 0] 28
 have hs0 : (w.alloc (.cells #[.slice none 0 0, .int .i64 0] 28)).heap.size = w.heap.size + 1 := by simp
 have hnr := hide (fun W => zj2.zf4 a cap [] W (by simp) (Mem.yj0 _ _) (fun x hx => (by cases hx)))
 have hn : (Pl.nest (Pl.rowO (([] : List Pl.It).map Pl.It.r))).isSome = false := rfl
 rw [hn] at hnr
 have e1 : Pl.zh1 [] = 1 := rfl
 have e2 : Pl.ze3 [] = [] := rfl
 rw [e1, e2]
 clear e1 e2 hn
 go_enter Tryz.func25, Tryz.ntmps25
 go_wp2_with fail
 refine (za hnr _).mono ?_
 rintro e w1 ⟨rfl, b1⟩
 have bw1 := b0.trans (b1.mono b0.size)
 have V1 := V0.call b1
 clear hnr b0 V0 b1 hs0
 have d0 := V1.cell 0
 have d1 := V1.cell 1
 have f0 := V1.fr 0
 have f1 := V1.fr 1
 have HB := hide bw1
 simp only [kGs] at d0 d1
 clear V1
 go_wp2
 refine bodyPost_ret (v := .agg #[.slice none 0 0, .int .i64 1]) (by simp [results, Tryz.results25, go_sem, d0, d1]) rfl ⟨⟨_, [], rfl, Mem.Io.nil _ _, rfl⟩, ?_⟩
 exact ((za HB).setCell (Nat.le_refl _) _).setCell (Nat.le_refl _) _
end zn4
end Go.Proofs.YtfdbokipgofcdaaGreatDoor

namespace Go.Proofs.YtfdbokipgofcdaaGreatDoor
open Go.RowKit Go.Shelf
attribute [local go_sem] Oper.semAt_some
namespace Pl
def ways (L : List ByteArray) (k : Nat) : List ByteArray := (List.range k).map (fun i => glue (L.take (i + 1)))
theorem yp4 (L : List ByteArray) (k : Nat) : ways L (k + 1) = ways L k ++ [glue (L.take (k + 1))] := by simp [ways, List.range_succ]
theorem ways_len (L : List ByteArray) (k : Nat) : (ways L k).length = k := by simp [ways]
end Pl
namespace ya7
abbrev Small := { x : ByteArray // x.size ≤ 1000000 }
def KC (X : Nat) (W W' : World) : Prop := W.heap.size ≤ W'.heap.size ∧ ∀ (j : Nat) (o : Obj), j ≠ X → W.heap[j]? = some o → o.isCells = true → W'.heap[j]? = some o
theorem KC.trans {X : Nat} {A B C : World} (h1 : KC X A B) (h2 : KC X B C) : KC X A C := ⟨Nat.le_trans h1.1 h2.1, fun j o hj ho hc => h2.2 j o hj (h1.2 j o hj ho hc) hc⟩
theorem KC.put {X l : Nat} (W : World) (o o' : Obj) (hl : W.heap[l]? = some o) (ho : o.isCells = false) : KC X W (W.putObj l o') := by
 refine ⟨by simp, fun j p _ hp hc => ?_⟩
 have hne : j ≠ l := fun e => by rw [e, hl] at hp; cases hp; rw [ho] at hc; cases hc
 exact (World.putObj_heap_other hne).trans hp
theorem row_kept {X : Nat} {W W' : World} {B T n : Nat} {v : Value} {xs : List Value} (h : W.ownsRow B T 1 v n xs) (k : KC X W W') (hX : X < B) : W'.ownsRow B T 1 v n xs := by
 refine ⟨h.1, ?_⟩
 rcases h.2 with h0 | ⟨g, cap, cur, hv, hb, hg, rest⟩
 ·exact .inl h0
 ·exact .inr ⟨g, cap, cur, hv, hb, k.2 g _ (by omega) hg rfl, rest⟩
end ya7
namespace Mem
theorem texts_take {w : World} {a : Option Addr} {n cap : Nat} {L : List ByteArray} (h : zs3 w (.slice a n cap) L) (k : Nat) (hk : k ≤ L.length) (h0 : 0 < k) : zs3 w (.slice a k cap) (L.take k) := by
 rcases h with ⟨_, h2⟩ | ⟨b, o, cap', hv, hb, hc⟩
 ·subst h2; simp at hk; omega
 ·injection hv with e1 e2 e3
  subst e1
  refine .inr ⟨b, o, cap, by rw [List.length_take, Nat.min_eq_left hk], hb, fun j t hj => hc j t ?_⟩
  rw [List.getElem?_take] at hj
  split at hj
  ·exact hj
  ·cases hj
theorem zz4 {w : World} {B T n cap : Nat} {a : Option Addr} {xs : List Value} (h : w.ownsRow B T 1 (.slice a n cap) n xs) : n ≤ cap := by
 rcases h.2 with ⟨hv, h0⟩ | ⟨g, cap', cur, hv, hb, hg, hc, rest⟩
 ·omega
 ·injection hv with e1 e2 e3
  omega
end Mem
namespace ya7
set_option linter.unusedSimpArgs false in
set_option maxRecDepth 100000 in
set_option maxHeartbeats 2000000 in
theorem iter_stops (n : Nat) (X : Nat) (q : Addr) (p : ByteArray) (w : World) (hX : X < w.heap.size) (hq : w.cell? q = some (.string p)) (hql : q.block < w.heap.size) (hp : p.size ≤ 1048576) :
  SeqStopsK Fence.wide n Tryz.prog 170 #[.pointer (some q)] (fun x : Small => #[Value.string x.1]) (KC X) (fun xs => xs.map Subtype.val = Pl.ways (Pl.zc8 p) (Pl.zc8 p).length) (fun _ => True) (Pl.zc8 p).length w := fun l J Jx W hW hJ _ hY h0 => by
 have hq1 : W.cell? q = some (.string p) := (hW.cell hql).trans hq
 have hXW : X < W.heap.size := Nat.lt_of_lt_of_le hX hW.size
 have HN := hide (yl0.any p W hp)
 generalize Pl.za5 p = rr at HN
 have hl6 : (Pl.zc8 p).length ≤ 6 := (Pl.zp8 p).2
 have HGL : Hid (∀ k, (Pl.glue ((Pl.zc8 p).take k)).size ≤ 1000000) := fun k => Pl.yw4 (fun t ht => (Pl.zp8 p).1 t (List.mem_of_mem_take ht)) (by have := (Pl.zp8 p).2; simp; omega)
 generalize Pl.zc8 p = L at hY hl6 HGL HN ⊢
 refine callsIn_of_wp Tryz.func170 rfl trivial ?_ rfl
 simp only [Tryz.ntmps170, List.size_toArray, List.length_cons, List.length_nil, Nat.reduceAdd, Nat.reduceSub, Array.replicate_succ, Array.replicate_zero, List.push_toArray, List.append_toArray, List.nil_append, List.cons_append]
 gi_wp2_with fail
 refine ⟨trivial, fun h => (by cases h), ?_⟩
 refine (callsIn_wide.2 (za HN)).mono ?_
 rintro e w1 ⟨v, rfl, own, b1⟩
 obtain ⟨a, cap, rfl⟩ := Mem.za1 own
 have hJ1 : Hid (∃ pre : List Small, pre.map Subtype.val = Pl.ways L 0 ∧ J pre w1) := ⟨[], rfl, hJ [] W w1 none h0 (Mem.zd8 b1 none) (fun r e => by cases e)⟩
 have OW := hide own
 have HY := hide hY
 clear HN own b1 h0 hY
 gi_wp2_with fail
 gi_loopw [13] (fun i wr => ∃ k : Nat, k ≤ L.length ∧ i = .int .i64 k ∧ Hid (∃ pre : List Small, pre.map Subtype.val = Pl.ways L k ∧ J pre wr) ∧ Hid (wr.ownsRow W.heap.size 9 1 (.slice a L.length cap) L.length (L.map Value.string)))
  (fun i _ => L.length - (intOf i).toNat)
 case atStart => exact ⟨0, Nat.zero_le _, rfl, hJ1, OW⟩
 case round =>
  obtain ⟨k, hk, rfl, HJ, HO⟩ := hrel
  clear hJ1 OW
  by_cases hlt : k < L.length
  ·have y1 : (k : Int) < (L.length : Int) := by omega
   have hT := Mem.texts_take (Mem.zx8 (za HO)) (k + 1) (by omega) (by omega)
   have HP := hide (yk5.any (.slice a (k + 1) cap) (L.take (k + 1)) wr (by simp; omega) (za HGL (k + 1)) hT)
   have hcap := Mem.zz4 (za HO)
   have hw1 : IntKind.i64.wrap ((k : Int) + 1) = (k : Int) + 1 := by simp only [IntKind.wrap_i64]; omega
   clear hT
   gi_wp2_with fail
   refine ⟨trivial, fun h => (by cases h), ?_⟩
   refine (callsIn_wide.2 (za HP)).mono ?_
   rintro e w2 ⟨rfl, b2⟩
   obtain ⟨pre, hpre, hJp⟩ := za HJ
   have HJ2 : J pre w2 := hJ _ wr w2 none hJp (Mem.zd8 b2 none) (fun r e => by cases e)
   have HO2 := hide (Mem.zm7 (za HO) b2)
   obtain ⟨fn, tmps, assign, body, hy, hR⟩ := za HY pre ⟨Pl.glue (L.take (k + 1)), za HGL (k + 1)⟩ w2 HJ2 (by have := congrArg List.length hpre; rw [Pl.ways_len, List.length_map] at this; omega)
   have HWS : Hid ((pre ++ [(⟨Pl.glue (L.take (k + 1)), za HGL (k + 1)⟩ : Small)]).map Subtype.val = Pl.ways L (k + 1)) := by rw [List.map_append, hpre, Pl.yp4]; exact rfl
   dsimp only at hy
   clear HP HJ HO HJ2 b2 hpre hJp
   gi_wp2
   refine ⟨fun h => (by cases h), ?_⟩
   refine hR.mono ?_
   rintro e W3 (⟨rfl, hJ3, hk3⟩ | ⟨rfl, hJx3⟩)
   ·have HJ3 : Hid (∃ pre : List Small, pre.map Subtype.val = Pl.ways L (k + 1) ∧ J pre W3) := ⟨_, za HWS, hJ3⟩
    have HO3 := hide (row_kept (za HO2) hk3 hXW)
    clear hJ3 hk3 HO2 hR hy HWS
    gi_wp2
    go_roundw
    case rel => exact ⟨k + 1, by omega, by go_num, HJ3, HO3⟩
    case measure => simp [intOf]; omega
   ·gi_wp2
    refine bodyPost_ret (results_none rfl _ _ _) rfl ?_
    exact ⟨⟨_, rfl⟩, .inr ⟨_, trivial, hJx3⟩⟩
  ·obtain rfl : k = L.length := by omega
   have y1 : ¬ ((L.length : Int) < (L.length : Int)) := by omega
   gi_wp2
   go_end0
   exact ⟨⟨_, rfl⟩, .inl (za HJ)⟩
set_option maxRecDepth 100000 in
theorem paths_any (p : ByteArray) (w : World) : Calls Tryz.prog 166 #[.string p] w fun e w' => e = .returned (.func (.func 170) #[] #[.pointer (some ⟨w.heap.size, 0, none⟩)]) ∧ w' = w.alloc (.cells #[.string p] 9) := by
 have hmf : ∀ (fn : Fn) (first cap : Array Value) (w : World), (Instr.makeFunc fn first cap).run Tryz.prog w = .ok (.func fn first cap) w := fun _ _ _ _ => rfl
 go_enter Tryz.func166, Tryz.ntmps166
 go_wp2
 go_ret
 exact ⟨rfl, rfl⟩
end ya7
end Go.Proofs.YtfdbokipgofcdaaGreatDoor

