/- Several texts of one claim in one file: WSightI, WDropX, WCopyV, WMaxS, WAllS, WPickA. -/
import Derived.Test.YtcogaghibpajjaaGreatDoorG42
import Derived.Test.YtcogaghibpajjaaGreatDoorPlainSightN
import Derived.Test.YtcogaghibpajjaaGreatDoorG19
import Derived.Test.YtcogaghibpajjaaGreatDoorG02
import Derived.Test.YtcogaghibpajjaaGreatDoorG01
import Derived.Test.YtcogaghibpajjaaGreatDoorG07
import Derived.Test.YtcogaghibpajjaaGreatDoorG09
import Derived.Laws.AppendOwnNone
import Derived.Below
import Derived.Test.YtcogaghibpajjaaGreatDoorProg
import Derived.WalkKit
import Derived.WalkSpells
import Derived.Deep.RegionHeld3
namespace Go.Proofs.YtcogaghibpajjaaGreatDoor
open Go.RowKit
namespace zr5
set_option linter.unusedSimpArgs false in
set_option maxRecDepth 100000 in
set_option maxHeartbeats 1000000 in
theorem sight_any (a : Option Addr) (cap : Nat) (Is : List Pl.It) (w : World) (hl : Is.length ≤ 1048576) (hcap : Is.length ≤ cap) (hv : Mem.zd4 w a Is) (hok : ∀ x ∈ Is, x.t.L.length ≤ 1048576 ∧ ∀ n ∈ x.t.L, n.path.size ≤ 1048576 ∧ n.data.size ≤ 1048576) (x : Nat → Addr) (hE : WIs.Six w x) :
  Calls Tryz.prog 6 #[.slice a Is.length cap] w fun e w' => ∃ v, e = .returned (.agg #[v, .int .i64 (Pl.zc3 (Is.map Pl.It.r))]) ∧ Mem.ownN w' w.heap.size v (Pl.zh4 (Is.map Pl.It.r)) ∧ Below w.heap.size w w' := by
 have b0 : Below w.heap.size w (w.alloc (.cells #[.slice none 0 0, .int .i64 0] 29)) := (Below.refl _ _).alloc (Nat.le_refl _) _
 have V0 := Mem.Blk.new w #[.slice none 0 0, .int .i64 0] 29
 have hs0 : (w.alloc (.cells #[.slice none 0 0, .int .i64 0] 29)).heap.size = w.heap.size + 1 := by simp
 have hvi := hide (zr5.view_any a cap Is (w.alloc (.cells #[.slice none 0 0, .int .i64 0] 29)) hl hcap (Mem.zh8 hv b0) hok x (hE.call b0))
 have HN : Hid (Pl.zc3 (Is.map Pl.It.r) ≠ 0 → Pl.zc5 (Is.map Pl.It.r) = [] ∧ Pl.zh4 (Is.map Pl.It.r) = []) := fun h => ⟨Pl.view_nil h, Pl.sight_no h⟩
 have HY : Hid (Pl.zc3 (Is.map Pl.It.r) = 0 → Pl.za2 (Pl.zc5 (Is.map Pl.It.r)) = true ∧ Pl.zh4 (Is.map Pl.It.r) = Pl.zb4 (Pl.zc5 (Is.map Pl.It.r))) := fun h => ⟨Pl.zn6 h, Pl.zq3 h⟩
 have HL := hide (Pl.zw (Is.map Pl.It.r))
 generalize Pl.zh4 (Is.map Pl.It.r) = O at HN HY ⊢
 generalize Pl.zc3 (Is.map Pl.It.r) = C at hvi HN HY ⊢
 generalize Pl.zc5 (Is.map Pl.It.r) = V at hvi HN HY HL
 have HE := hide (fun W (b : Below w.heap.size w W) => hE.call b)
 clear hv hok hE
 go_enter Tryz.func6, Tryz.ntmps6
 go_wp2_with fail
 generalize w.alloc (.cells #[.slice none 0 0, .int .i64 0] 29) = w2 at b0 V0 hs0 hvi ⊢
 refine (za hvi).mono ?_
 rintro e w1 ⟨v1, rfl, own1, b1⟩
 obtain ⟨a1, c1, rfl⟩ := Mem.za0 own1
 have bw1 := b0.trans (b1.mono b0.size)
 have V3 := (V0.call b1).alloc (.cells #[.slice a1 V.length c1, .int .i64 C] 29)
 have bw3 := bw1.alloc bw1.size (.cells #[.slice a1 V.length c1, .int .i64 C] 29)
 have X3 := Mem.Blk.new w1 #[.slice a1 V.length c1, .int .i64 C] 29
 have O3 := Mem.zb7 own1 (.cells #[.slice a1 V.length c1, .int .i64 C] 29)
 have hs1 := b1.size
 have x0 := X3.cell 0
 have x1 := X3.cell 1
 simp only [kA0, kA1, kA2] at x0 x1
 clear hvi b0 V0 own1 b1 bw1 X3
 by_cases hC : C = 0
 ·subst hC
  obtain ⟨ht, rfl⟩ := za HY rfl
  have hpl := hide (zz4.zn9 a1 c1 V (w1.alloc (.cells #[.slice a1 V.length c1, .int .i64 0] 29)) (by have := (za HL).1; omega) (Mem.zh6 O3).2 (za HL).2 _ _ _ _ _ _ (za HE _ bw3).errs)
  rw [show Pl.zu0 V = 0 by rw [Pl.zu0, if_pos ht], show Pl.plainO V = Pl.zb4 V by rw [Pl.plainO, if_pos ht]] at hpl
  clear HN HY HL ht O3 HE
  go_wp2_with fail
  generalize w1.alloc (.cells #[.slice a1 V.length c1, .int .i64 0] 29) = w4 at V3 bw3 hpl x0 x1 ⊢
  refine (za hpl).mono ?_
  rintro e w5 ⟨v5, rfl, own5, b5⟩
  obtain ⟨a5, c5, rfl⟩ := Mem.za0 own5
  have hR := V3.lt
  have OW := hide (Mem.zb0 (Mem.za5 (Mem.za5 own5 ⟨w.heap.size, 0, none⟩ (.slice a5 (Pl.zb4 V).length c5) (by show w.heap.size < _; omega)) ⟨w.heap.size, 1, none⟩ (.int .i64 0) (by show w.heap.size < _; omega)) (show w.heap.size ≤ w4.heap.size by omega))
  have HB := hide (bw3.trans (b5.mono bw3.size))
  have d0 := (V3.call b5).cell 0
  have d1 := (V3.call b5).cell 1
  have f0 := (V3.call b5).fr 0
  have f1 := (V3.call b5).fr 1
  simp only [kA0, kA1, kA2] at d0 d1
  clear hpl own5 b5 V3 bw3 x0 x1
  go_wp2
  refine bodyPost_ret (v := .agg #[.slice a5 (Pl.zb4 V).length c5, .int .i64 0]) (by simp [results, Tryz.results6, go_sem, d0, d1]) rfl ⟨_, rfl, za OW, ?_⟩
  first | exact ((za HB).setCell (Nat.le_refl _) _).setCell (Nat.le_refl _) _ | exact (za HB).setCell (Nat.le_refl _) _
 ·obtain ⟨rfl, rfl⟩ := za HN hC
  simp only [List.length_nil] at V3 bw3 O3 x0 x1 ⊢
  have hD1 : (C == 0) = false := by simpa using hC
  have hD2 : decide (C = 0) = false := by simpa using hC
  have hD3 : (C != 0) = true := by simpa using hC
  have OW := hide (Mem.zb0 (Mem.za5 (Mem.za5 O3 ⟨w.heap.size, 0, none⟩ (.slice a1 0 c1) (by show w.heap.size < _; omega)) ⟨w.heap.size, 1, none⟩ (.int .i64 C) (by show w.heap.size < _; omega)) (show w.heap.size ≤ w2.heap.size by omega))
  clear HN HY HL O3 HE
  have HB := hide bw3
  have d0 := V3.cell 0
  have d1 := V3.cell 1
  have f0 := V3.fr 0
  have f1 := V3.fr 1
  simp only [kA0, kA1, kA2] at d0 d1
  clear V3 bw3
  go_wp2
  refine bodyPost_ret (v := .agg #[.slice a1 0 c1, .int .i64 C]) (by simp [results, Tryz.results6, go_sem, d0, d1]) rfl ⟨_, rfl, za OW, ?_⟩
  first | exact ((za HB).setCell (Nat.le_refl _) _).setCell (Nat.le_refl _) _ | exact (za HB).setCell (Nat.le_refl _) _
end zr5
end Go.Proofs.YtcogaghibpajjaaGreatDoor

namespace Go.Proofs.YtcogaghibpajjaaGreatDoor
namespace zp4
theorem drop_cons {Is : List Pl.It} {p : Nat} {L : List Pl.Nd} {k m : Pl.Fx} {R : List (Int × List Pl.Nd)} (h : (Is.drop p).map Pl.It.r = (Pl.Fx.cons L k m).flat ++ R) : ∃ x, Is[p]? = some x ∧ x.m = (k.len : Int) ∧ x.t.L = L ∧ (Is.drop (p + 1)).map Pl.It.r = k.flat ++ (m.flat ++ R) := by
 rw [Pl.Fx.flat, List.cons_append] at h
 cases hd : Is.drop p with
 | nil => rw [hd] at h; cases h
 | cons x T =>
  rw [hd] at h
  simp only [List.map_cons, List.cons.injEq] at h
  have hx : Is[p]? = some x := by
   have := List.getElem?_drop (xs := Is) (i := p) (j := 0)
   rw [hd] at this
   simpa using this.symm
  have hT : Is.drop (p + 1) = T := by rw [← List.drop_drop, hd]; rfl
  refine ⟨x, hx, congrArg Prod.fst h.1, congrArg Prod.snd h.1, ?_⟩
  rw [hT, h.2, List.append_assoc]
theorem drop_more {Is : List Pl.It} {k : Pl.Fx} : ∀ {p : Nat} {R : List (Int × List Pl.Nd)}, (Is.drop p).map Pl.It.r = k.flat ++ R → (Is.drop (p + k.sz)).map Pl.It.r = R := by
 intro p R h
 rw [← List.drop_drop, List.map_drop, h, ← Pl.Fx.flat_len, List.drop_left]
end zp4
end Go.Proofs.YtcogaghibpajjaaGreatDoor

namespace Go.Proofs.YtcogaghibpajjaaGreatDoor
open Go.RowKit
namespace Mem
def okR (a : Option Addr) (cap : Nat) (L : List Pl.Nd) : Prop := (a = none ∧ cap = 0 ∧ L = []) ∨ ∃ g o, a = some ⟨g, o, none⟩
end Mem
namespace WCopyV
set_option linter.unusedSimpArgs false in
set_option maxRecDepth 100000 in
set_option maxHeartbeats 1000000 in
theorem copy_any (a : Option Addr) (cap : Nat) (L : List Pl.Nd) (w : World) (hl : L.length ≤ 1000) (hA : Mem.okR a cap L) (hv : Mem.za9 w a L) :
  Calls Tryz.prog 42 #[.agg #[.slice a L.length cap]] w fun e w' => ∃ v, e = .returned (.agg #[v]) ∧ Mem.ownN w' w.heap.size v L ∧ Below w.heap.size w w' := by
 obtain ⟨i0, hi, hz0, hz1, hz2⟩ := info_parts zd8.zk6
 have b2 : Below w.heap.size w (((w.alloc (.cells #[.slice a L.length cap] 27)).alloc (.cells #[.slice none 0 0] 27)).alloc (.cells #[] 62)) := (((Below.refl _ _).alloc (Nat.le_refl _) _).alloc (by simp) _).alloc (by simp; omega) _
 have B0 := ((Mem.Blk.new w #[.slice a L.length cap] 27).alloc (.cells #[.slice none 0 0] 27)).alloc (.cells #[] 62)
 have B1 : Mem.Blk (((w.alloc (.cells #[.slice a L.length cap] 27)).alloc (.cells #[.slice none 0 0] 27)).alloc (.cells #[] 62)) (w.heap.size + 1) #[.slice none 0 0] 27 := (show Mem.Blk ((w.alloc (.cells #[.slice a L.length cap] 27)).alloc (.cells #[.slice none 0 0] 27)) (w.heap.size + 1) #[.slice none 0 0] 27 from Mem.zg9 _ _ _).alloc _
 have OA : Hid (Mem.ownN (((w.alloc (.cells #[.slice a L.length cap] 27)).alloc (.cells #[.slice none 0 0] 27)).alloc (.cells #[] 62)) (w.heap.size + 2) (.slice (some ⟨w.heap.size + 2, 0, none⟩) 0 0) []) := by
  refine ⟨rfl, .inr ⟨w.heap.size + 2, 0, #[], rfl, Nat.le_refl _, ?_, Nat.le_refl _, Nat.zero_le _, rfl, rfl⟩⟩
  have h := heap_alloc_new ((w.alloc (.cells #[.slice a L.length cap] 27)).alloc (.cells #[.slice none 0 0] 27)) (.cells #[] 62)
  rw [show ((w.alloc (.cells #[.slice a L.length cap] 27)).alloc (.cells #[.slice none 0 0] 27)).heap.size = w.heap.size + 2 by simp] at h
  exact h
 have NV := hide (Mem.za4 hv b2)
 have x0 := B0.cell 0
 simp only [kA0, kA1] at x0
 clear hv
 rcases hA with ⟨rfl, rfl, rfl⟩ | ⟨g, o, rfl⟩
 ·simp only [List.length_nil] at OA B1 b2 x0 ⊢
  have z0 := B1.cell 0
  have zf := B1.fr 0
  simp only [kA0, kA1] at z0
  have BB := (B1.put 0 (.slice (some ⟨w.heap.size + 2, 0, none⟩) 0 0)).cell 0
  go_enter Tryz.func42, Tryz.ntmps42
  go_wp2_with (at_builtin; refine wpList_append_own_none rfl _ _ 25 rfl (w.heap.size + 2) 62 i0 5 Tryz.underlying25 hi _ _ _ rfl (za OA) rfl ?_)
  refine bodyPost_ret (v := .agg #[.slice (some ⟨w.heap.size + 1 + 1, 0, none⟩) 0 0]) (by simp [results, Tryz.results42, go_sem, z0]) rfl ⟨_, rfl, ?_, ?_⟩
  ·refine ⟨rfl, .inr ⟨w.heap.size + 1 + 1, 0, #[], rfl, by omega, ?_, Nat.le_refl _, Nat.zero_le _, rfl, rfl⟩⟩
   have h := heap_alloc_new ((w.alloc (.cells #[.slice none 0 0] 27)).alloc (.cells #[.slice (some ⟨w.heap.size + 1 + 1, 0, none⟩) 0 0] 27)) (.cells #[] 62)
   rw [show ((w.alloc (.cells #[.slice none 0 0] 27)).alloc (.cells #[.slice (some ⟨w.heap.size + 1 + 1, 0, none⟩) 0 0] 27)).heap.size = w.heap.size + 1 + 1 by simp] at h
   exact h
  ·exact (((Below.refl _ _).alloc (Nat.le_refl _) _).alloc (by simp) _).alloc (by simp; omega) _
 ·go_enter Tryz.func42, Tryz.ntmps42
  go_wp2_with (at_builtin; refine wpList_append_own _ rfl _ _ 25 rfl (w.heap.size + 2) 62 i0 _ 5 56 Tryz.underlying25 hi hz0 hz1 hz2 rfl (by decide) _ _ _ rfl (za OA) ⟨g, o, none⟩ L.length cap (Pl.zb5 L) rfl (by rw [Pl.zh7]) (zd8.zs5 (za NV)) (zd8.cells_one _) (by rw [List.length_nil, Nat.zero_add]; unfold maxLen; omega) (by rw [List.length_nil, Nat.zero_add]; omega) (by simp) ?_)
  intro v1 wA ownA growA _
  have OB := hide (zd8.zk (A := []) (M := L) (m := L.length) (by rw [List.length_nil, Nat.zero_add]; exact ownA) rfl)
  rw [List.nil_append] at OB
  have hg1 : ∀ q, (Value.slice (some ⟨w.heap.size + 2, 0, none⟩) 0 0).ownBlock = some q → q = w.heap.size + 2 := fun q hq => (Option.some.inj hq).symm
  have B1 := B1.grown growA (fun e => by have := hg1 _ e.symm; omega)
  have b3 := b2.grown growA b2.size (fun q hq => by have := hg1 q hq; omega)
  obtain ⟨a3, c3, hv3⟩ := Mem.za0 (za OB)
  subst hv3
  have z0 := B1.cell 0
  have zf := B1.fr 0
  simp only [kA0, kA1] at z0
  clear ownA growA hg1 OA NV x0 B0 b2
  go_wp2
  refine bodyPost_ret (v := .agg #[.slice a3 L.length c3]) (by simp [results, Tryz.results42, go_sem, z0]) rfl ⟨_, rfl, ?_, ?_⟩
  ·exact Mem.zb0 (Mem.za5 (za OB) _ _ (by show w.heap.size + 1 < w.heap.size + 2; omega)) (by omega)
  ·exact b3.setCell (by show w.heap.size ≤ w.heap.size + 1; omega) _
end WCopyV
end Go.Proofs.YtcogaghibpajjaaGreatDoor

namespace Go.Proofs.YtcogaghibpajjaaGreatDoor
open Go.RowKit
namespace zm0
set_option maxRecDepth 100000 in
theorem zo3 (x y : Int) (w : World) : Calls Tryz.prog 116 #[.int .i64 x, .int .i64 y] w fun e w' => e = .returned (.int .i64 (max x y)) ∧ w' = w := by
 by_cases h : y < x
 ·go_enter Tryz.func116, Tryz.ntmps116
  go_wp2
  go_ret
  exact ⟨by rw [show max x y = x by omega]; rfl, rfl⟩
 ·go_enter Tryz.func116, Tryz.ntmps116
  go_wp2
  go_ret
  exact ⟨by rw [show max x y = y by omega]; rfl, rfl⟩
end zm0
end Go.Proofs.YtcogaghibpajjaaGreatDoor

namespace Go.Proofs.YtcogaghibpajjaaGreatDoor
open Go.RowKit
namespace zm0
theorem infoI : (Tryz.prog.info? 3).map (fun i => (i.zero, i.size, i.bytes)) = some (some (.int .i64 0), 1, 8) := by kernel_rfl
def intsV (ks : List Nat) : List Value := ks.map (fun k : Nat => Value.int .i64 (k : Int))
def ownI (w : World) (B : Nat) (v : Value) (ks : List Nat) : Prop := w.ownsRow B 3 1 v ks.length (intsV ks)
theorem ownI_call {w w' : World} {B : Nat} {v : Value} {ks : List Nat} (h : ownI w B v ks) (b : Below w.heap.size w w') : ownI w' B v ks := by
 refine ⟨h.1, ?_⟩
 rcases h.2 with h0 | ⟨g, cap, cur, hv, hb, hg, rest⟩
 ·exact .inl h0
 ·exact .inr ⟨g, cap, cur, hv, hb, (b.block g (Array.getElem?_eq_some_iff.1 hg).1).trans hg, rest⟩
theorem ownI_snoc {w : World} {B : Nat} {v : Value} {ks : List Nat} {k : Nat} (h : w.ownsRow B 3 1 v (ks.length + 1) (intsV ks ++ [.int .i64 (k : Int)])) : ownI w B v (ks ++ [k]) := by
 unfold ownI intsV
 rw [List.map_append, List.length_append]
 exact h
set_option linter.unusedSimpArgs false in
set_option maxRecDepth 100000 in
set_option maxHeartbeats 1000000 in
theorem all_any (n : Nat) (w : World) (hn : n ≤ 4) :
  Calls Tryz.prog 62 #[.int .i64 (n : Int)] w fun e w' => ∃ v, e = .returned v ∧ ownI w' w.heap.size v (List.range n) ∧ Below w.heap.size w w' := by
 obtain ⟨i0, hi, hz0, hz1, hz2⟩ := info_parts infoI
 have A0 : Hid (Below w.heap.size w (w.alloc (.cells #[] 3)) ∧ ownI (w.alloc (.cells #[] 3)) w.heap.size (.slice (some ⟨w.heap.size, 0, none⟩) 0 0) (List.range 0)) := ⟨(Below.refl _ _).alloc (Nat.le_refl _) _, ⟨rfl, .inr ⟨w.heap.size, 0, #[], rfl, Nat.le_refl _, heap_alloc_new _ _, Nat.le_refl _, Nat.zero_le _, rfl, rfl⟩⟩⟩
 go_enter Tryz.func62, Tryz.ntmps62
 go_wp2
 go_loopw [3, 4] (fun v i wr => ∃ k : Nat, k ≤ n ∧ i = .int .i64 (k : Int) ∧ Hid (Below w.heap.size w wr ∧ ownI wr w.heap.size v (List.range k))) (fun _ i _ => n - (intOf i).toNat)
 case atStart => exact ⟨0, Nat.zero_le _, rfl, A0⟩
 case round =>
  obtain ⟨k, hk, rfl, HA⟩ := hrel
  clear A0
  by_cases hlt : k < n
  ·have y1 : (k : Int) < (n : Int) := by omega
   have bA : Below wr.heap.size wr (wr.alloc (.cells #[.int .i64 (k : Int)] 3)) := (Below.refl _ _).alloc (Nat.le_refl _) _
   have HR := hide (ownI_call (za HA).2 bA)
   have HQ := hide (fun w2 h2 => Mem.zj1 (o := .cells #[.int .i64 (k : Int)] 3) (w1 := w2) (za HA).1 (Nat.le_refl _) (za HA).2 h2)
   have HSB := hide (za HA).1.size
   unfold ownI at HR
   rw [List.length_range] at HR
   clear HA bA
   go_wp2_with (at_builtin; refine wpList_append_own _ rfl _ _ 109 rfl w.heap.size 3 i0 (.int .i64 0) 1 8 Tryz.underlying109 hi hz0 hz1 hz2 rfl (by decide) _ _ _ rfl (za HR) ⟨wr.heap.size, 0, none⟩ 1 1 [.int .i64 (k : Int)] rfl rfl (Mem.ze6 _ _ _) (fun u hu => by simp at hu; subst hu; rfl) (by unfold maxLen; omega) (by omega) (by have := za HSB; simp; omega) ?_)
   intro v' w2 own' hgrow _
   have A2 : Hid (Below w.heap.size w w2 ∧ ownI w2 w.heap.size v' (List.range (k + 1))) := ⟨za HQ w2 hgrow, by rw [List.range_succ]; exact ownI_snoc (by rw [List.length_range]; exact own')⟩
   clear HR HQ own' hgrow HSB
   go_wp2
   go_roundw
   case rel => exact ⟨k + 1, by omega, by go_num, A2⟩
   case measure => simp [intOf]; omega
  ·obtain rfl : k = n := by omega
   have y1 : ¬ ((k : Int) < (k : Int)) := by omega
   go_wp2
   go_ret
   exact ⟨_, rfl, (za HA).2, (za HA).1⟩
end zm0
end Go.Proofs.YtcogaghibpajjaaGreatDoor

namespace Go.Proofs.YtcogaghibpajjaaGreatDoor
open Go.RowKit
namespace zm0
def zb2 (o : Pl.Ot) (v : Value) : List Value := [.bool o.ok, .string o.node.path, .int .i64 o.node.kind, .string o.node.data, .int .i64 o.node.time, .int .i64 o.node.mark, v]
structure AtP (w W : World) (o : Pl.Ot) (v : Value) : Prop where
 bel : Below w.heap.size w W
 res : Mem.Blk W w.heap.size (zb2 ⟨false, Pl.za8, []⟩ (.slice none 0 0)).toArray 149
 out : Mem.Blk W (w.heap.size + 1) (zb2 o v).toArray 149
 own : ownI W (w.heap.size + 2) v o.parts
theorem AtP.call {w W W' : World} {o : Pl.Ot} {v : Value} (h : AtP w W o v) (b : Below W.heap.size W W') : AtP w W' o v := ⟨h.bel.trans (b.mono h.bel.size), h.res.call b, h.out.call b, ownI_call h.own b⟩
theorem AtP.alloc {w W : World} {o : Pl.Ot} {v : Value} (h : AtP w W o v) (x : Obj) : AtP w (W.alloc x) o v := h.call ((Below.refl _ _).alloc (Nat.le_refl _) x)
theorem zg7 {w : World} {B : Nat} {v : Value} {ks : List Nat} (h : ownI w B v ks) (a : Addr) (u : Value) (ha : a.block < B) : ownI (w.setCell a u) B v ks := by
 refine ⟨h.1, ?_⟩
 rcases h.2 with h0 | ⟨g, cap, cur, hv, hb, hg, rest⟩
 ·exact .inl h0
 ·exact .inr ⟨g, cap, cur, hv, hb, (heap_setCell_other w a g u (by omega)).trans hg, rest⟩
theorem yd6 {w : World} {B B' : Nat} {v : Value} {ks : List Nat} (h : ownI w B v ks) (hb : B' ≤ B) : ownI w B' v ks := by
 refine ⟨h.1, ?_⟩
 rcases h.2 with h0 | ⟨g, cap, cur, hv, hb2, rest⟩
 ·exact .inl h0
 ·exact .inr ⟨g, cap, cur, hv, Nat.le_trans hb hb2, rest⟩
theorem ya3 {w : World} {B : Nat} {v : Value} {ks : List Nat} (h : ownI w B v ks) : ∃ a cap, v = .slice a ks.length cap := Mem.za0 h
theorem AtP.put {w W : World} {o o' : Pl.Ot} {v : Value} (h : AtP w W o v) (k : Nat) (u : Value) (e : (zb2 o v).set k u = zb2 o' v) (hp : o'.parts = o.parts) : AtP w (W.setCell ⟨w.heap.size + 1, k, none⟩ u) o' v := by
 refine ⟨h.bel.setCell (by show w.heap.size ≤ w.heap.size + 1; omega) _, h.res.far _ _ (by show w.heap.size ≠ w.heap.size + 1; omega), ?_, ?_⟩
 ·have h2 := h.out.put k u
  rw [List.setIfInBounds_toArray, e] at h2
  exact h2
 ·rw [hp]; exact zg7 h.own _ _ (by show w.heap.size + 1 < w.heap.size + 2; omega)
theorem AtP.ok {w W : World} {o : Pl.Ot} {v : Value} (h : AtP w W o v) (x : Bool) : AtP w (W.setCell ⟨w.heap.size + 1, 0, none⟩ (.bool x)) ⟨x, o.node, o.parts⟩ v := h.put 0 _ rfl rfl
theorem AtP.mark {w W : World} {o : Pl.Ot} {v : Value} (h : AtP w W o v) (m : Int) : AtP w (W.setCell ⟨w.heap.size + 1, 5, none⟩ (.int .i64 m)) ⟨o.ok, ⟨o.node.path, o.node.kind, o.node.data, o.node.time, m⟩, o.parts⟩ v := h.put 5 _ rfl rfl
theorem AtP.node {w W : World} {o : Pl.Ot} {v : Value} (h : AtP w W o v) (p : ByteArray) (k : Int) (d : ByteArray) (t m : Int) : AtP w (((((W.setCell ⟨w.heap.size + 1, 1, none⟩ (.string p)).setCell ⟨w.heap.size + 1, 2, none⟩ (.int .i64 k)).setCell ⟨w.heap.size + 1, 3, none⟩ (.string d)).setCell ⟨w.heap.size + 1, 4, none⟩ (.int .i64 t)).setCell ⟨w.heap.size + 1, 5, none⟩ (.int .i64 m)) ⟨o.ok, ⟨p, k, d, t, m⟩, o.parts⟩ v :=
 ((((h.put (o' := ⟨o.ok, ⟨p, o.node.kind, o.node.data, o.node.time, o.node.mark⟩, o.parts⟩) 1 _ rfl rfl).put (o' := ⟨o.ok, ⟨p, k, o.node.data, o.node.time, o.node.mark⟩, o.parts⟩) 2 _ rfl rfl).put (o' := ⟨o.ok, ⟨p, k, d, o.node.time, o.node.mark⟩, o.parts⟩) 3 _ rfl rfl).put (o' := ⟨o.ok, ⟨p, k, d, t, o.node.mark⟩, o.parts⟩) 4 _ rfl rfl).put 5 _ rfl rfl
theorem AtP.more {w W W' : World} {o : Pl.Ot} {v v' : Value} {k : Nat} (h : AtP w W o v) (own' : W'.ownsRow (w.heap.size + 2) 3 1 v' (o.parts.length + 1) (intsV o.parts ++ [.int .i64 (k : Int)])) (g : W.grownBy W' v.ownBlock) : AtP w (W'.setCell ⟨w.heap.size + 1, 6, none⟩ v') ⟨o.ok, o.node, o.parts ++ [k]⟩ v' := by
 have hlt : ∀ q, v.ownBlock = some q → w.heap.size + 2 ≤ q := fun q hq => (World.ownsRow.lt h.own q hq).1
 refine ⟨(h.bel.grown g h.bel.size (fun q hq => by have := hlt q hq; omega)).setCell (by show w.heap.size ≤ w.heap.size + 1; omega) _, (h.res.grown g (fun e => by have := hlt _ e.symm; omega)).far _ _ (by show w.heap.size ≠ w.heap.size + 1; omega), ?_, ?_⟩
 ·have h2 := (h.out.grown g (fun e => by have := hlt _ e.symm; omega)).put 6 v'
  rw [List.setIfInBounds_toArray] at h2
  exact h2
 ·exact zg7 (ownI_snoc own') _ _ (by show w.heap.size + 1 < w.heap.size + 2; omega)
theorem AtP.ret {w W : World} {o : Pl.Ot} {v : Value} (h : AtP w W o v) (x : Bool) (p : ByteArray) (k : Int) (d : ByteArray) (t m : Int) (u : Value) :
  Mem.Blk (((((((W.setCell ⟨w.heap.size, 0, none⟩ (.bool x)).setCell ⟨w.heap.size, 1, none⟩ (.string p)).setCell ⟨w.heap.size, 2, none⟩ (.int .i64 k)).setCell ⟨w.heap.size, 3, none⟩ (.string d)).setCell ⟨w.heap.size, 4, none⟩ (.int .i64 t)).setCell ⟨w.heap.size, 5, none⟩ (.int .i64 m)).setCell ⟨w.heap.size, 6, none⟩ u) w.heap.size #[.bool x, .string p, .int .i64 k, .string d, .int .i64 t, .int .i64 m, u] 149 ∧
  Below w.heap.size w (((((((W.setCell ⟨w.heap.size, 0, none⟩ (.bool x)).setCell ⟨w.heap.size, 1, none⟩ (.string p)).setCell ⟨w.heap.size, 2, none⟩ (.int .i64 k)).setCell ⟨w.heap.size, 3, none⟩ (.string d)).setCell ⟨w.heap.size, 4, none⟩ (.int .i64 t)).setCell ⟨w.heap.size, 5, none⟩ (.int .i64 m)).setCell ⟨w.heap.size, 6, none⟩ u) ∧
  ownI (((((((W.setCell ⟨w.heap.size, 0, none⟩ (.bool x)).setCell ⟨w.heap.size, 1, none⟩ (.string p)).setCell ⟨w.heap.size, 2, none⟩ (.int .i64 k)).setCell ⟨w.heap.size, 3, none⟩ (.string d)).setCell ⟨w.heap.size, 4, none⟩ (.int .i64 t)).setCell ⟨w.heap.size, 5, none⟩ (.int .i64 m)).setCell ⟨w.heap.size, 6, none⟩ u) w.heap.size v o.parts := by
 have hr : w.heap.size < w.heap.size + 2 := by omega
 refine ⟨?_, ((((((h.bel.setCell (p := ⟨w.heap.size, 0, none⟩) (Nat.le_refl _) _).setCell (p := ⟨w.heap.size, 1, none⟩) (Nat.le_refl _) _).setCell (p := ⟨w.heap.size, 2, none⟩) (Nat.le_refl _) _).setCell (p := ⟨w.heap.size, 3, none⟩) (Nat.le_refl _) _).setCell (p := ⟨w.heap.size, 4, none⟩) (Nat.le_refl _) _).setCell (p := ⟨w.heap.size, 5, none⟩) (Nat.le_refl _) _).setCell (p := ⟨w.heap.size, 6, none⟩) (Nat.le_refl _) _, ?_⟩
 ·have h2 := ((((((h.res.put 0 (.bool x)).put 1 (.string p)).put 2 (.int .i64 k)).put 3 (.string d)).put 4 (.int .i64 t)).put 5 (.int .i64 m)).put 6 u
  simp only [kB3] at h2
  exact h2
 ·exact yd6 (zg7 (zg7 (zg7 (zg7 (zg7 (zg7 (zg7 h.own _ _ hr) _ _ hr) _ _ hr) _ _ hr) _ _ hr) _ _ hr) _ _ hr) (by omega)
end zm0
end Go.Proofs.YtcogaghibpajjaaGreatDoor

