/- Several texts of one claim in one file: WReadN, WGetS, WTextS, Merge. -/
import Derived.Test.YtioildojmckepaaGreatDoorG34
import Derived.Test.YtioildojmckepaaGreatDoorG01
import Derived.Test.YtioildojmckepaaGreatDoorG02
import Derived.WalkKit
import Derived.Laws.IdiomStrings
import Derived.Test.YtioildojmckepaaGreatDoorProg
import Derived.WalkSpells
import Derived.Test.YtioildojmckepaaGreatDoorG04
import Derived.Deep.RegionHeld3
namespace Go.Proofs.YtioildojmckepaaGreatDoor
open Go.RowKit
namespace Pl
theorem getNum_at {s : ByteArray} {a : Int} (h : (za0 s a).2.2 = 0) : (za0 s a).2.1 ≤ (s.size : Int) := by
 unfold za0 at h ⊢
 split at h
 ·simp at h
 ·rename_i h1
  rw [if_neg h1]
  split at h
  ·simp at h
  ·rename_i h2
   rw [if_neg h2]
   obtain ⟨q, e, hq⟩ := getAt_ok s 10 _ _ _ h
   rw [e]; omega
theorem zo {s : ByteArray} {a : Int} {f : Option Int} (h8 : s.size ≤ 8000) (ha : a ≤ 9223372036854775807) : (numR s a f).2.1 ≤ 9223372036854775807 := by
 cases f with
 | some c => exact ha
 | none =>
  by_cases h : (za0 s a).2.2 = 0
  ·have := getNum_at h
   rw [show numR s a none = ((za0 s a).1, (za0 s a).2.1, none) from if_pos h]
   show (za0 s a).2.1 ≤ _
   omega
  ·rw [show numR s a none = (0, 0, some (za0 s a).2.2) from if_neg h]
   show (0 : Int) ≤ _; omega
theorem zx7 {s : ByteArray} {a : Int} {f : Option Int} (h8 : s.size ≤ 8000) (ha : a ≤ 9223372036854775807) : (strR s a f).2.1 ≤ 9223372036854775807 := by
 cases f with
 | some c => exact ha
 | none =>
  by_cases h : (za6 s a).2.2 = 0
  ·rw [show strR s a none = ((za6 s a).1, (za6 s a).2.1, none) from if_pos h]
   show (za6 s a).2.1 ≤ _
   unfold za6
   split
   ·show (0 : Int) ≤ _; omega
   ·split
    ·show (0 : Int) ≤ _; omega
    ·split
     ·show (0 : Int) ≤ _; omega
     ·show (za0 s a).2.1 + (za0 s a).1 ≤ _; omega
  ·rw [show strR s a none = (⟨#[]⟩, 0, some (za6 s a).2.2) from if_neg h]
   show (0 : Int) ≤ _; omega
structure NodeR where
 n : Nd
 a : Int
 f : Option Int
def zh2 (s : ByteArray) (a0 : Int) (f0 : Option Int) : NodeR :=
 let r1 := strR s a0 f0
 let r2 := numR s r1.2.1 r1.2.2
 let r3 := strR s r2.2.1 r2.2.2
 let r4 := numR s r3.2.1 r3.2.2
 let r5 := numR s r4.2.1 r4.2.2
 ⟨⟨r1.1, r2.1, r3.1, r4.1, r5.1⟩, r5.2.1, r5.2.2⟩
theorem nodeR_at {s : ByteArray} {a : Int} {f : Option Int} (h8 : s.size ≤ 8000) (ha : a ≤ 9223372036854775807) : (zh2 s a f).a ≤ 9223372036854775807 := zo h8 (zo h8 (zx7 h8 (zo h8 (zx7 h8 ha))))
end Pl
namespace za8
theorem zd8 {w W : World} {r : Option Nat} (h : w.grownBy W r) (X k : Nat) (v : Value) (hX : w.heap.size ≤ X) : w.grownBy (W.setCell ⟨X, k, none⟩ v) r :=
 have b : Below X W (W.setCell ⟨X, k, none⟩ v) := (Below.refl X W).setCell (Nat.le_refl _) v
 ⟨b.os.trans h.os, b.tape.trans h.tape, b.output.trans h.output, Nat.le_trans h.size b.size, fun j hj hne => (heap_setCell_other W _ j v (by show j ≠ X; omega)).trans (h.block j hj hne)⟩
set_option linter.unusedSimpArgs false in
set_option maxRecDepth 100000 in
set_option maxHeartbeats 2000000 in
theorem zv6 (X : Nat) (s : ByteArray) (a : Int) (f : Option Int) (w : World) (h8 : s.size ≤ 8000) (ha : a ≤ 9223372036854775807) (hv : Rd w X s a f) :
  Calls Tryz.prog 69 #[.pointer (some ⟨X, 0, none⟩)] w fun e w' => e = .returned (Pl.zh2 s a f).n.val ∧ Rd w' X s (Pl.zh2 s a f).a (Pl.zh2 s a f).f ∧ w.grownBy w' (some X) := by
 have hX : X < w.heap.size := hv.lt
 unfold Pl.zh2
 simp only [Pl.Nd.val]
 have R0 : Rd ((w.alloc (.cells #[.string ⟨#[]⟩, .int .i64 0, .string ⟨#[]⟩, .int .i64 0, .int .i64 0] 88)).alloc (.cells #[.string ⟨#[]⟩, .int .i64 0, .string ⟨#[]⟩, .int .i64 0, .int .i64 0] 88)) X s a f := Mem.Blk.alloc (Mem.Blk.alloc hv _) _
 have U0 : Mem.Blk ((w.alloc (.cells #[.string ⟨#[]⟩, .int .i64 0, .string ⟨#[]⟩, .int .i64 0, .int .i64 0] 88)).alloc (.cells #[.string ⟨#[]⟩, .int .i64 0, .string ⟨#[]⟩, .int .i64 0, .int .i64 0] 88)) w.heap.size #[.string ⟨#[]⟩, .int .i64 0, .string ⟨#[]⟩, .int .i64 0, .int .i64 0] 88 := (Mem.Blk.new w #[.string ⟨#[]⟩, .int .i64 0, .string ⟨#[]⟩, .int .i64 0, .int .i64 0] 88).alloc _
 have V0 : Mem.Blk ((w.alloc (.cells #[.string ⟨#[]⟩, .int .i64 0, .string ⟨#[]⟩, .int .i64 0, .int .i64 0] 88)).alloc (.cells #[.string ⟨#[]⟩, .int .i64 0, .string ⟨#[]⟩, .int .i64 0, .int .i64 0] 88)) (w.heap.size + 1) #[.string ⟨#[]⟩, .int .i64 0, .string ⟨#[]⟩, .int .i64 0, .int .i64 0] 88 := Mem.zu4 _ _ _
 have G0 : w.grownBy ((w.alloc (.cells #[.string ⟨#[]⟩, .int .i64 0, .string ⟨#[]⟩, .int .i64 0, .int .i64 0] 88)).alloc (.cells #[.string ⟨#[]⟩, .int .i64 0, .string ⟨#[]⟩, .int .i64 0, .int .i64 0] 88)) (some X) := (World.grownBy_alloc w _ _).trans (World.grownBy_alloc _ _ _)
 clear hv
 have hz0 := hide (fun W (h : Rd W X s a f) => str_any X s a f W h8 ha h)
 have hA0 : (Pl.strR s a f).2.1 ≤ 9223372036854775807 := Pl.zx7 h8 ha
 obtain ⟨⟨v0, a0, f0⟩, hr0⟩ : ∃ r, (Pl.strR s a f) = r := ⟨_, rfl⟩
 rw [hr0] at hz0 hA0 ⊢
 simp only at hz0 hA0
 clear ha
 have ha := hA0
 clear hA0 hr0
 have hz1 := hide (fun W (h : Rd W X s a0 f0) => zj6 X s a0 f0 W h8 ha h)
 have hA1 : (Pl.numR s a0 f0).2.1 ≤ 9223372036854775807 := Pl.zo h8 ha
 obtain ⟨⟨v1, a1, f1⟩, hr1⟩ : ∃ r, (Pl.numR s a0 f0) = r := ⟨_, rfl⟩
 rw [hr1] at hz1 hA1 ⊢
 simp only at hz1 hA1
 clear ha
 have ha := hA1
 clear hA1 hr1
 have hz2 := hide (fun W (h : Rd W X s a1 f1) => str_any X s a1 f1 W h8 ha h)
 have hA2 : (Pl.strR s a1 f1).2.1 ≤ 9223372036854775807 := Pl.zx7 h8 ha
 obtain ⟨⟨v2, a2, f2⟩, hr2⟩ : ∃ r, (Pl.strR s a1 f1) = r := ⟨_, rfl⟩
 rw [hr2] at hz2 hA2 ⊢
 simp only at hz2 hA2
 clear ha
 have ha := hA2
 clear hA2 hr2
 have hz3 := hide (fun W (h : Rd W X s a2 f2) => zj6 X s a2 f2 W h8 ha h)
 have hA3 : (Pl.numR s a2 f2).2.1 ≤ 9223372036854775807 := Pl.zo h8 ha
 obtain ⟨⟨v3, a3, f3⟩, hr3⟩ : ∃ r, (Pl.numR s a2 f2) = r := ⟨_, rfl⟩
 rw [hr3] at hz3 hA3 ⊢
 simp only at hz3 hA3
 clear ha
 have ha := hA3
 clear hA3 hr3
 have hz4 := hide (fun W (h : Rd W X s a3 f3) => zj6 X s a3 f3 W h8 ha h)
 have hA4 : (Pl.numR s a3 f3).2.1 ≤ 9223372036854775807 := Pl.zo h8 ha
 obtain ⟨⟨v4, a4, f4⟩, hr4⟩ : ∃ r, (Pl.numR s a3 f3) = r := ⟨_, rfl⟩
 rw [hr4] at hz4 hA4 ⊢
 simp only at hz4 hA4
 clear ha
 have ha := hA4
 clear hA4 hr4
 go_enter Tryz.func69, Tryz.ntmps69
 have KR := hide R0
 have KU := hide U0
 have KV := hide V0
 have KG := hide G0
 clear R0 U0 V0 G0
 go_wp2_with fail
 refine (za hz0 _ (za KR)).mono ?_
 rintro e w1 ⟨rfl, R0', g0⟩
 have U0' := (za KU).grown g0 (fun e => by cases e; omega)
 have V0' := (za KV).grown g0 (fun e => by cases e; omega)
 have G0' := (za KG).trans g0
 clear hz0 KR KU KV KG g0
 have d0 := V0'.cell 0
 have e0 := V0'.fr 0
 simp only [kGs] at d0
 have R1 : Rd (w1.setCell ⟨w.heap.size + 1, 0, none⟩ (.string v0)) X s a0 f0 := Mem.Blk.far R0' _ _ (by show X ≠ w.heap.size + 1; omega)
 have U1 : Mem.Blk (w1.setCell ⟨w.heap.size + 1, 0, none⟩ (.string v0)) w.heap.size #[.string ⟨#[]⟩, .int .i64 0, .string ⟨#[]⟩, .int .i64 0, .int .i64 0] 88 := U0'.far _ _ (by show w.heap.size ≠ w.heap.size + 1; omega)
 have V1 : Mem.Blk (w1.setCell ⟨w.heap.size + 1, 0, none⟩ (.string v0)) (w.heap.size + 1) #[.string v0, .int .i64 0, .string ⟨#[]⟩, .int .i64 0, .int .i64 0] 88 := V0'.put 0 _
 have G1 := zd8 G0' (w.heap.size + 1) 0 (.string v0) (by omega)
 clear R0' U0' V0' G0'
 have KR := hide R1
 have KU := hide U1
 have KV := hide V1
 have KG := hide G1
 clear R1 U1 V1 G1
 go_wp2_with fail
 refine (za hz1 _ (za KR)).mono ?_
 rintro e w2 ⟨rfl, R1', g1⟩
 have U1' := (za KU).grown g1 (fun e => by cases e; omega)
 have V1' := (za KV).grown g1 (fun e => by cases e; omega)
 have G1' := (za KG).trans g1
 clear hz1 KR KU KV KG g1
 have d1 := V1'.cell 1
 have e1 := V1'.fr 1
 simp only [kGs] at d1
 have R2 : Rd (w2.setCell ⟨w.heap.size + 1, 1, none⟩ (.int .i64 v1)) X s a1 f1 := Mem.Blk.far R1' _ _ (by show X ≠ w.heap.size + 1; omega)
 have U2 : Mem.Blk (w2.setCell ⟨w.heap.size + 1, 1, none⟩ (.int .i64 v1)) w.heap.size #[.string ⟨#[]⟩, .int .i64 0, .string ⟨#[]⟩, .int .i64 0, .int .i64 0] 88 := U1'.far _ _ (by show w.heap.size ≠ w.heap.size + 1; omega)
 have V2 : Mem.Blk (w2.setCell ⟨w.heap.size + 1, 1, none⟩ (.int .i64 v1)) (w.heap.size + 1) #[.string v0, .int .i64 v1, .string ⟨#[]⟩, .int .i64 0, .int .i64 0] 88 := V1'.put 1 _
 have G2 := zd8 G1' (w.heap.size + 1) 1 (.int .i64 v1) (by omega)
 clear R1' U1' V1' G1'
 have KR := hide R2
 have KU := hide U2
 have KV := hide V2
 have KG := hide G2
 clear R2 U2 V2 G2
 go_wp2_with fail
 refine (za hz2 _ (za KR)).mono ?_
 rintro e w3 ⟨rfl, R2', g2⟩
 have U2' := (za KU).grown g2 (fun e => by cases e; omega)
 have V2' := (za KV).grown g2 (fun e => by cases e; omega)
 have G2' := (za KG).trans g2
 clear hz2 KR KU KV KG g2
 have d2 := V2'.cell 2
 have e2 := V2'.fr 2
 simp only [kGs] at d2
 have R3 : Rd (w3.setCell ⟨w.heap.size + 1, 2, none⟩ (.string v2)) X s a2 f2 := Mem.Blk.far R2' _ _ (by show X ≠ w.heap.size + 1; omega)
 have U3 : Mem.Blk (w3.setCell ⟨w.heap.size + 1, 2, none⟩ (.string v2)) w.heap.size #[.string ⟨#[]⟩, .int .i64 0, .string ⟨#[]⟩, .int .i64 0, .int .i64 0] 88 := U2'.far _ _ (by show w.heap.size ≠ w.heap.size + 1; omega)
 have V3 : Mem.Blk (w3.setCell ⟨w.heap.size + 1, 2, none⟩ (.string v2)) (w.heap.size + 1) #[.string v0, .int .i64 v1, .string v2, .int .i64 0, .int .i64 0] 88 := V2'.put 2 _
 have G3 := zd8 G2' (w.heap.size + 1) 2 (.string v2) (by omega)
 clear R2' U2' V2' G2'
 have KR := hide R3
 have KU := hide U3
 have KV := hide V3
 have KG := hide G3
 clear R3 U3 V3 G3
 go_wp2_with fail
 refine (za hz3 _ (za KR)).mono ?_
 rintro e w4 ⟨rfl, R3', g3⟩
 have U3' := (za KU).grown g3 (fun e => by cases e; omega)
 have V3' := (za KV).grown g3 (fun e => by cases e; omega)
 have G3' := (za KG).trans g3
 clear hz3 KR KU KV KG g3
 have d3 := V3'.cell 3
 have e3 := V3'.fr 3
 simp only [kGs] at d3
 have R4 : Rd (w4.setCell ⟨w.heap.size + 1, 3, none⟩ (.int .i64 v3)) X s a3 f3 := Mem.Blk.far R3' _ _ (by show X ≠ w.heap.size + 1; omega)
 have U4 : Mem.Blk (w4.setCell ⟨w.heap.size + 1, 3, none⟩ (.int .i64 v3)) w.heap.size #[.string ⟨#[]⟩, .int .i64 0, .string ⟨#[]⟩, .int .i64 0, .int .i64 0] 88 := U3'.far _ _ (by show w.heap.size ≠ w.heap.size + 1; omega)
 have V4 : Mem.Blk (w4.setCell ⟨w.heap.size + 1, 3, none⟩ (.int .i64 v3)) (w.heap.size + 1) #[.string v0, .int .i64 v1, .string v2, .int .i64 v3, .int .i64 0] 88 := V3'.put 3 _
 have G4 := zd8 G3' (w.heap.size + 1) 3 (.int .i64 v3) (by omega)
 clear R3' U3' V3' G3'
 have KR := hide R4
 have KU := hide U4
 have KV := hide V4
 have KG := hide G4
 clear R4 U4 V4 G4
 go_wp2_with fail
 refine (za hz4 _ (za KR)).mono ?_
 rintro e w5 ⟨rfl, R4', g4⟩
 have U4' := (za KU).grown g4 (fun e => by cases e; omega)
 have V4' := (za KV).grown g4 (fun e => by cases e; omega)
 have G4' := (za KG).trans g4
 clear hz4 KR KU KV KG g4
 have d4 := V4'.cell 4
 have e4 := V4'.fr 4
 simp only [kGs] at d4
 have R5 : Rd (w5.setCell ⟨w.heap.size + 1, 4, none⟩ (.int .i64 v4)) X s a4 f4 := Mem.Blk.far R4' _ _ (by show X ≠ w.heap.size + 1; omega)
 have U5 : Mem.Blk (w5.setCell ⟨w.heap.size + 1, 4, none⟩ (.int .i64 v4)) w.heap.size #[.string ⟨#[]⟩, .int .i64 0, .string ⟨#[]⟩, .int .i64 0, .int .i64 0] 88 := U4'.far _ _ (by show w.heap.size ≠ w.heap.size + 1; omega)
 have V5 : Mem.Blk (w5.setCell ⟨w.heap.size + 1, 4, none⟩ (.int .i64 v4)) (w.heap.size + 1) #[.string v0, .int .i64 v1, .string v2, .int .i64 v3, .int .i64 v4] 88 := V4'.put 4 _
 have G5 := zd8 G4' (w.heap.size + 1) 4 (.int .i64 v4) (by omega)
 clear R4' U4' V4' G4'
 have KR := hide R5
 have KG := hide G5
 have p0 := V5.cell 0
 have q0 := U5.cell 0
 have t0 := U5.fr 0
 have p1 := V5.cell 1
 have q1 := U5.cell 1
 have t1 := U5.fr 1
 have p2 := V5.cell 2
 have q2 := U5.cell 2
 have t2 := U5.fr 2
 have p3 := V5.cell 3
 have q3 := U5.cell 3
 have t3 := U5.fr 3
 have p4 := V5.cell 4
 have q4 := U5.cell 4
 have t4 := U5.fr 4
 simp only [kGs] at p0 p1 p2 p3 p4 q0 q1 q2 q3 q4
 clear R5 U5 V5 G5
 go_wp2
 refine bodyPost_ret (v := .agg #[.string v0, .int .i64 v1, .string v2, .int .i64 v3, .int .i64 v4]) (by simp [results, Tryz.results69, go_sem, q0, q1, q2, q3, q4]) rfl ⟨rfl, ?_, ?_⟩
 ·exact Mem.Blk.far (Mem.Blk.far (Mem.Blk.far (Mem.Blk.far (Mem.Blk.far (za KR) _ _ (by show X ≠ w.heap.size; omega)) _ _ (by show X ≠ w.heap.size; omega)) _ _ (by show X ≠ w.heap.size; omega)) _ _ (by show X ≠ w.heap.size; omega)) _ _ (by show X ≠ w.heap.size; omega)
 ·exact zd8 (zd8 (zd8 (zd8 (zd8 (za KG) w.heap.size 0 _ (Nat.le_refl _)) w.heap.size 1 _ (Nat.le_refl _)) w.heap.size 2 _ (Nat.le_refl _)) w.heap.size 3 _ (Nat.le_refl _)) w.heap.size 4 _ (Nat.le_refl _)
end za8
end Go.Proofs.YtioildojmckepaaGreatDoor

namespace Go.Proofs.YtioildojmckepaaGreatDoor
open Go.RowKit
namespace WGetS
def num (r : Int × Int × Int) : Value := .agg #[.int .i64 r.1, .int .i64 r.2.1, .int .i64 r.2.2]

set_option maxRecDepth 100000 in
set_option maxHeartbeats 1000000 in
theorem zb8 (s : ByteArray) (a : Int) (w : World) (hs : s.size ≤ maxLen) (ha : a ≤ 9223372036854775807) :
  Calls Tryz.prog 58 #[.string s, .int .i64 a] w fun e w' => e = .returned (num (Pl.za0 s a)) ∧ Below w.heap.size w w' := by
 unfold maxLen at hs
 by_cases h1 : 8000 < s.size
 ·have E : Hid (num (Pl.za0 s a) = .agg #[.int .i64 0, .int .i64 0, .int .i64 2]) := by show _ = _; rw [Pl.za0, if_pos h1]; rfl
  go_enter Tryz.func58, Tryz.ntmps58
  go_wp2
  refine bodyPost_ret (v := .agg #[.int .i64 0, .int .i64 0, .int .i64 2]) (by simp [results, Tryz.results58, go_sem]) rfl ⟨by rw [E.out], ?_⟩
  exact (Below.refl _ _).alloc (Nat.le_refl _) _
 by_cases h2 : a < 0
 ·have E : Hid (num (Pl.za0 s a) = .agg #[.int .i64 0, .int .i64 0, .int .i64 1]) := by show _ = _; rw [Pl.za0, if_neg h1, if_pos h2]; rfl
  go_enter Tryz.func58, Tryz.ntmps58
  go_wp2
  refine bodyPost_ret (v := .agg #[.int .i64 0, .int .i64 0, .int .i64 1]) (by simp [results, Tryz.results58, go_sem]) rfl ⟨by rw [E.out], ?_⟩
  exact (Below.refl _ _).alloc (Nat.le_refl _) _
 obtain ⟨n, rfl⟩ := Int.eq_ofNat_of_zero_le (Int.not_lt.1 h2)
 have E : Hid (Pl.za0 s (n : Int) = Pl.zd1 s 10 n 0 0) := by show _ = _; rw [Pl.za0, if_neg h1, if_neg h2, Int.toNat_natCast]
 go_enter Tryz.func58, Tryz.ntmps58
 go_wp2
 go_loop [5, 6] (fun x i => ∃ k X : Nat, k ≤ 10 ∧ (k = 0 ∨ n + k ≤ s.size) ∧ i = .int .i64 (k : Int) ∧ x = .int .u64 (X : Int) ∧ Hid (X < 128 ^ k) ∧ Hid (Pl.za0 s (n : Int) = Pl.zd1 s (10 - k) (n + k) k X)) (fun _ i => 10 - (intOf i).toNat)
 case atStart => exact ⟨0, 0, by omega, .inl rfl, rfl, rfl, by show 0 < 1; decide, E⟩
 case round =>
  obtain ⟨k, X, hk, hn, rfl, rfl, HX, H⟩ := hrel
  by_cases hk10 : k < 10
  ·have hf : 10 - k = 9 - k + 1 := by omega
   have H2 : Pl.za0 s (n : Int) = Pl.zd1 s (9 - k + 1) (n + k) k X := by have := H.out; rwa [hf] at this
   clear H hf
   by_cases hsz : s.size ≤ n + k
   ·have t1 : (s.size : Int) - (k : Int) ≤ (n : Int) := by omega
    have E : Hid (num (Pl.za0 s (n : Int)) = .agg #[.int .i64 0, .int .i64 0, .int .i64 4]) := by show _ = _; rw [H2, Pl.zx3 _ hsz]; rfl
    clear H2
    go_wp2
    refine bodyPost_ret (v := .agg #[.int .i64 0, .int .i64 0, .int .i64 4]) (by simp [results, Tryz.results58, go_sem]) rfl ⟨by rw [E.out], ?_⟩
    exact (Below.refl _ _).alloc (Nat.le_refl _) _
   ·have t1 : ¬ (s.size : Int) - (k : Int) ≤ (n : Int) := by omega
    have hlt : n + k < s.size := by omega
    have hcc : s[n + k].toNat < 256 := s[n + k].toNat_lt
    have t3 : (s[n + k].toNat : Int) < 256 := by omega
    have t4 : (0 : Int) ≤ (s[n + k].toNat : Int) := by omega
    by_cases hA : k = 9 ∧ 1 < s[n + k].toNat
    ·have t5 : ((k : Int) == 9) = true := by rw [beq_iff_eq]; omega
     have t6 : (1 : Int) < (s[n + k].toNat : Int) := by omega
     have E : Hid (num (Pl.za0 s (n : Int)) = .agg #[.int .i64 0, .int .i64 0, .int .i64 3]) := by
      show _ = _
      by_cases h128 : 128 ≤ s[n + k].toNat
      ·rw [H2, Pl.zz1 _ hlt h128 hA.1]; rfl
      ·rw [H2, Pl.zw2 _ hlt (by omega) (.inl hA)]; rfl
     clear H2 hA
     go_wp2
     refine bodyPost_ret (v := .agg #[.int .i64 0, .int .i64 0, .int .i64 3]) (by simp [results, Tryz.results58, go_sem]) rfl ⟨by rw [E.out], ?_⟩
     exact (Below.refl _ _).alloc (Nat.le_refl _) _
    ·have t5 : (((k : Int) == 9) && decide ((1 : Int) < (s[n + k].toNat : Int))) = false := by
      rw [Bool.and_eq_false_iff, beq_eq_false_iff_ne, decide_eq_false_iff_not]; omega
     by_cases h128 : 128 ≤ s[n + k].toNat
     ·have h9 : k ≠ 9 := by omega
      have t6 : ((k : Int) == 9) = false := by rw [beq_eq_false_iff_ne]; omega
      have t7 : ¬ (s[n + k].toNat : Int) < 128 := by omega
      have HB := hide (H2.trans (Pl.zt5 _ hlt h128 h9))
      have HX2 := hide (Pl.next_lt (c := s[n + k].toNat) HX.out)
      have HT := hide (Pl.sum_form (k := k) (X := X) (c := s[n + k].toNat) (Pl.zs4 (by omega) HX.out))
      clear H2 hA t5
      go_wp2
      go_round
      case rel => exact ⟨k + 1, _, by omega, .inr (by omega), by go_num, by rw [za HT], HX2, by show _ = _; rw [show 10 - (k + 1) = 9 - k by omega]; exact za HB⟩
      case measure => simp [intOf]; omega
     ·have t7 : (s[n + k].toNat : Int) < 128 := by omega
      by_cases hC : s[n + k].toNat = 0 ∧ 0 < k
      ·have t8 : ((s[n + k].toNat : Int) == 0) = true := by rw [beq_iff_eq]; omega
       have t9 : (0 : Int) < (k : Int) := by omega
       have E : Hid (num (Pl.za0 s (n : Int)) = .agg #[.int .i64 0, .int .i64 0, .int .i64 3]) := by show _ = _; rw [H2, Pl.zw2 _ hlt (by omega) (.inr hC)]; rfl
       clear H2 hA hC
       by_cases h9 : k = 9
       ·subst h9
        have t10 : ¬ (1 : Int) < (s[n + 9].toNat : Int) := by have := beq_iff_eq.1 t8; omega
        have t11 : ¬ (s.size : Int) - 9 ≤ (n : Int) := by omega
        clear t5 t1 t9
        go_wp2
        refine bodyPost_ret (v := .agg #[.int .i64 0, .int .i64 0, .int .i64 3]) (by simp [results, Tryz.results58, go_sem]) rfl ⟨by rw [E.out], ?_⟩
        exact (Below.refl _ _).alloc (Nat.le_refl _) _
       ·have t6 : ((k : Int) == 9) = false := by rw [beq_eq_false_iff_ne]; omega
        clear t5
        go_wp2
        refine bodyPost_ret (v := .agg #[.int .i64 0, .int .i64 0, .int .i64 3]) (by simp [results, Tryz.results58, go_sem]) rfl ⟨by rw [E.out], ?_⟩
        exact (Below.refl _ _).alloc (Nat.le_refl _) _
      ·have hsm : X + s[n + k].toNat % 128 * 128 ^ k < 18446744073709551616 := by
        by_cases h9 : k = 9
        ·subst h9; exact Pl.yf (by omega) HX.out
        ·exact Pl.zs4 (by omega) HX.out
       have HT := Pl.sum_form (k := k) (X := X) (c := s[n + k].toNat) hsm
       have HB : Pl.za0 s (n : Int) = (Pl.unf (X + s[n + k].toNat % 128 * 128 ^ k), ((n + k + 1 : Nat) : Int), 0) := by
        rw [H2, Pl.zs7 _ hlt (by omega) (fun h => h.elim hA hC), Nat.mod_eq_of_lt (by omega : s[n + k].toNat < 128)]
       generalize X + s[n + k].toNat % 128 * 128 ^ k = Y at hsm HT HB
       have HB := hide HB
       clear H2
       by_cases h2 : Y % 2 = 1
       ·have E : Hid (num (Pl.za0 s (n : Int)) = .agg #[.int .i64 (-((Y : Int) / 2) - 1), .int .i64 ((n : Int) + (k : Int) + 1), .int .i64 0]) := by
         show _ = _
         rw [za HB, Pl.unf, if_pos h2, num]
         simp only
         rw [show -((Y / 2 : Nat) : Int) - 1 = -((Y : Int) / 2) - 1 by omega, show ((n + k + 1 : Nat) : Int) = (n : Int) + (k : Int) + 1 by omega]
        have t12 : ((Y : Int) % 2 == 1) = true := by rw [beq_iff_eq]; omega
        clear h2
        by_cases h9 : k = 9
        ·have t6 : ((k : Int) == 9) = true := by rw [beq_iff_eq]; omega
         have t10 : ¬ (1 : Int) < (s[n + k].toNat : Int) := by omega
         by_cases hz : s[n + k].toNat = 0
         ·exact absurd ⟨hz, by omega⟩ hC
         ·have t8 : ((s[n + k].toNat : Int) == 0) = false := by rw [beq_eq_false_iff_ne]; omega
          clear t5 hA hC h9 hz
          go_wp2
          refine bodyPost_ret (v := .agg #[.int .i64 (-((Y : Int) / 2) - 1), .int .i64 ((n : Int) + (k : Int) + 1), .int .i64 0]) (by simp [results, Tryz.results58, go_sem]) rfl ⟨by rw [E.out], ?_⟩
          exact (Below.refl _ _).alloc (Nat.le_refl _) _
        ·have t6 : ((k : Int) == 9) = false := by rw [beq_eq_false_iff_ne]; omega
         by_cases hz : s[n + k].toNat = 0
         ·have t8 : ((s[n + k].toNat : Int) == 0) = true := by rw [beq_iff_eq]; omega
          have t9 : ¬ (0 : Int) < (k : Int) := by omega
          clear t5 hA hC h9 hz
          go_wp2
          refine bodyPost_ret (v := .agg #[.int .i64 (-((Y : Int) / 2) - 1), .int .i64 ((n : Int) + (k : Int) + 1), .int .i64 0]) (by simp [results, Tryz.results58, go_sem]) rfl ⟨by rw [E.out], ?_⟩
          exact (Below.refl _ _).alloc (Nat.le_refl _) _
         ·have t8 : ((s[n + k].toNat : Int) == 0) = false := by rw [beq_eq_false_iff_ne]; omega
          clear t5 hA hC h9 hz
          go_wp2
          refine bodyPost_ret (v := .agg #[.int .i64 (-((Y : Int) / 2) - 1), .int .i64 ((n : Int) + (k : Int) + 1), .int .i64 0]) (by simp [results, Tryz.results58, go_sem]) rfl ⟨by rw [E.out], ?_⟩
          exact (Below.refl _ _).alloc (Nat.le_refl _) _
       ·have E : Hid (num (Pl.za0 s (n : Int)) = .agg #[.int .i64 ((Y : Int) / 2), .int .i64 ((n : Int) + (k : Int) + 1), .int .i64 0]) := by
         show _ = _
         rw [za HB, Pl.unf, if_neg h2, num]
         simp only
         rw [show ((Y / 2 : Nat) : Int) = (Y : Int) / 2 by omega, show ((n + k + 1 : Nat) : Int) = (n : Int) + (k : Int) + 1 by omega]
        have t12 : ((Y : Int) % 2 == 1) = false := by rw [beq_eq_false_iff_ne]; omega
        clear h2
        by_cases h9 : k = 9
        ·have t6 : ((k : Int) == 9) = true := by rw [beq_iff_eq]; omega
         have t10 : ¬ (1 : Int) < (s[n + k].toNat : Int) := by omega
         by_cases hz : s[n + k].toNat = 0
         ·exact absurd ⟨hz, by omega⟩ hC
         ·have t8 : ((s[n + k].toNat : Int) == 0) = false := by rw [beq_eq_false_iff_ne]; omega
          clear t5 hA hC h9 hz
          go_wp2
          refine bodyPost_ret (v := .agg #[.int .i64 ((Y : Int) / 2), .int .i64 ((n : Int) + (k : Int) + 1), .int .i64 0]) (by simp [results, Tryz.results58, go_sem]) rfl ⟨by rw [E.out], ?_⟩
          exact (Below.refl _ _).alloc (Nat.le_refl _) _
        ·have t6 : ((k : Int) == 9) = false := by rw [beq_eq_false_iff_ne]; omega
         by_cases hz : s[n + k].toNat = 0
         ·have t8 : ((s[n + k].toNat : Int) == 0) = true := by rw [beq_iff_eq]; omega
          have t9 : ¬ (0 : Int) < (k : Int) := by omega
          clear t5 hA hC h9 hz
          go_wp2
          refine bodyPost_ret (v := .agg #[.int .i64 ((Y : Int) / 2), .int .i64 ((n : Int) + (k : Int) + 1), .int .i64 0]) (by simp [results, Tryz.results58, go_sem]) rfl ⟨by rw [E.out], ?_⟩
          exact (Below.refl _ _).alloc (Nat.le_refl _) _
         ·have t8 : ((s[n + k].toNat : Int) == 0) = false := by rw [beq_eq_false_iff_ne]; omega
          clear t5 hA hC h9 hz
          go_wp2
          refine bodyPost_ret (v := .agg #[.int .i64 ((Y : Int) / 2), .int .i64 ((n : Int) + (k : Int) + 1), .int .i64 0]) (by simp [results, Tryz.results58, go_sem]) rfl ⟨by rw [E.out], ?_⟩
          exact (Below.refl _ _).alloc (Nat.le_refl _) _
  ·obtain rfl : k = 10 := by omega
   have E : Hid (num (Pl.za0 s (n : Int)) = .agg #[.int .i64 0, .int .i64 0, .int .i64 3]) := by show _ = _; rw [H.out]; rfl
   go_wp2
   refine bodyPost_ret (v := .agg #[.int .i64 0, .int .i64 0, .int .i64 3]) (by simp [results, Tryz.results58, go_sem]) rfl ⟨by rw [E.out], ?_⟩
   exact (Below.refl _ _).alloc (Nat.le_refl _) _
end WGetS
end Go.Proofs.YtioildojmckepaaGreatDoor

namespace Go.Proofs.YtioildojmckepaaGreatDoor
open Go.RowKit
namespace WTextS
def txt (r : ByteArray × Int × Int) : Value := .agg #[.string r.1, .int .i64 r.2.1, .int .i64 r.2.2]

theorem new_cell (W : World) (C : Array Value) (T : TypeId) (B : Nat) {j : Nat} {v : Value} (hB : W.heap.size = B) (hv : C[j]? = some v) : ((W.alloc (.cells C T)).drew).cell? ⟨B, j, none⟩ = some v := by
 subst hB
 show (W.alloc (.cells C T)).cell? ⟨W.heap.size, j, none⟩ = some v
 rw [World.cell?_alloc_mark]
 exact hv

set_option maxRecDepth 100000 in
set_option maxHeartbeats 1000000 in
theorem zb8 (s : ByteArray) (a : Int) (w : World) (hs : s.size ≤ maxLen) (ha : a ≤ 9223372036854775807) :
  Calls Tryz.prog 61 #[.string s, .int .i64 a] w fun e w' => e = .returned (txt (Pl.za6 s a)) ∧ Below w.heap.size w w' := by
 have m0 := hs
 unfold maxLen at m0
 obtain ⟨n, p, c, HN, H⟩ := Pl.zs3 s a
 have E1 : Hid (WGetS.num (Pl.za0 s a) = .agg #[.int .i64 n, .int .i64 p, .int .i64 c]) := by show _ = _; rw [HN]; rfl
 clear HN
 have HC := hide H
 clear H
 go_enter Tryz.func61, Tryz.ntmps61
 go_wp2_with fail
 refine (WGetS.zb8 s a _ hs ha).mono ?_
 rintro e w1 ⟨rfl, b1⟩
 rw [E1.out]
 obtain ⟨⟨c0, c1, c2⟩, ⟨f0, f1, f2⟩, b3⟩ := Mem.kept3 b1 (heap_alloc_new w _) ((Below.refl _ _).alloc (Nat.le_refl _) _)
 have hlt : w.heap.size < w1.heap.size := World.block_lt_of_cell? w1 ⟨w.heap.size, 0, none⟩ c0
 clear b1 E1
 rcases za HC with ⟨hc, hn, hp, H⟩ | ⟨rfl, h8, q, rfl, hq, H⟩
 ·have E : Hid (txt (Pl.za6 s a) = .agg #[.string ⟨#[]⟩, .int .i64 0, .int .i64 c]) := by show _ = _; rw [H]; rfl
  have t1 : (c != 0) = true := by rw [bne_iff_ne]; exact hc
  clear HC H hc hn hp
  go_wp2
  refine bodyPost_ret (v := .agg #[.string ⟨#[]⟩, .int .i64 0, .int .i64 c]) (by simp [results, Tryz.results61, go_sem, c0, c1, c2, hlt]) rfl ⟨by rw [E.out], ?_⟩
  exact (((b3.setCell (by simp) _).setCell (by simp) _).setCell (by simp) _).alloc (by simp [World.setCell]; omega) _
 ·rcases H with ⟨hn, H⟩ | ⟨hn, H⟩ | ⟨m, rfl, hm, H⟩
  ·have E : Hid (txt (Pl.za6 s a) = .agg #[.string ⟨#[]⟩, .int .i64 0, .int .i64 3]) := by show _ = _; rw [H]; rfl
   clear HC H
   go_wp2
   refine bodyPost_ret (v := .agg #[.string ⟨#[]⟩, .int .i64 0, .int .i64 3]) (by simp [results, Tryz.results61, go_sem, c0, c1, c2, hlt]) rfl ⟨by rw [E.out], ?_⟩
   exact (((b3.setCell (by simp) _).setCell (by simp) _).setCell (by simp) _).alloc (by simp [World.setCell]; omega) _
  ·have E : Hid (txt (Pl.za6 s a) = .agg #[.string ⟨#[]⟩, .int .i64 0, .int .i64 3]) := by show _ = _; rw [H]; rfl
   have t1 : ¬ n < 0 := by omega
   clear HC H
   go_wp2
   refine bodyPost_ret (v := .agg #[.string ⟨#[]⟩, .int .i64 0, .int .i64 3]) (by simp [results, Tryz.results61, go_sem, c0, c1, c2, hlt]) rfl ⟨by rw [E.out], ?_⟩
   exact (((b3.setCell (by simp) _).setCell (by simp) _).setCell (by simp) _).alloc (by simp [World.setCell]; omega) _
  ·have t1 : ¬ (m : Int) < 0 := by omega
   have t2 : ¬ (8000 : Int) < (m : Int) := by omega
   rcases H with ⟨h3, H⟩ | ⟨h3, H⟩
   ·have E : Hid (txt (Pl.za6 s a) = .agg #[.string ⟨#[]⟩, .int .i64 0, .int .i64 4]) := by show _ = _; rw [H]; rfl
    have t3 : (s.size : Int) - (m : Int) < (q : Int) := by omega
    clear HC H
    go_wp2
    refine bodyPost_ret (v := .agg #[.string ⟨#[]⟩, .int .i64 0, .int .i64 4]) (by simp [results, Tryz.results61, go_sem, c0, c1, c2, hlt]) rfl ⟨by rw [E.out], ?_⟩
    exact (((b3.setCell (by simp) _).setCell (by simp) _).setCell (by simp) _).alloc (by simp [World.setCell]; omega) _
   ·have E : Hid (txt (Pl.za6 s a) = .agg #[.string (s.extract q (q + m)), .int .i64 ((q : Int) + (m : Int)), .int .i64 0]) := by show _ = _; rw [H]; rfl
    have t3 : ¬ (s.size : Int) - (m : Int) < (q : Int) := by omega
    have t4 : IntKind.i64.wrap ((q : Int) + (m : Int)) = (q : Int) + (m : Int) := by rw [IntKind.wrap_i64]; omega
    have t5 : (0 : Int) ≤ (q : Int) := by omega
    have t6 : (q : Int) ≤ (q : Int) + (m : Int) := by omega
    have t7 : (q : Int) + (m : Int) ≤ (s.size : Int) := by omega
    clear HC H
    go_wp2
    go_region_held3 (fun w' => w'.cell? ⟨w1.heap.size, 0, none⟩ = some (.int .i64 (m : Int)) ∧ w'.cell? ⟨w1.heap.size, 1, none⟩ = some (.int .i64 (q : Int))) (first | (go_keep; done) | exact ⟨new_cell _ _ _ _ (by simp) rfl, new_cell _ _ _ _ (by simp) rfl⟩) (fail)
    have et : ((q : Int) + (m : Int)).toNat = q + m := by omega
    rw [et]
    generalize s.extract q (q + m) = B at E ⊢
    clear et
    go_wp2
    refine bodyPost_ret (v := .agg #[.string B, .int .i64 ((q : Int) + (m : Int)), .int .i64 0]) (by simp [results, Tryz.results61, go_sem, c0, c1, c2, hlt]) rfl ⟨by rw [E.out], ?_⟩
    exact ((((b3.setCell (by simp) _).setCell (by simp) _).setCell (by simp) _).alloc (by simp [World.setCell]; omega) _).drew
end WTextS
end Go.Proofs.YtioildojmckepaaGreatDoor

namespace Go.Proofs.YtioildojmckepaaGreatDoor

theorem wp_merge {P : Program} {code : Code} {Q : Exit → Act → World → Prop} {T : Array Value} {D : List _} {w : World} (R : Array Value → Array Value → World → Prop)
  (h : code.wp P (fun e a W => e = .normal ∧ a.defers = D ∧ R T a.tmps W) ⟨T, D⟩ w) (h2 : ∀ T' W, R T T' W → Q .normal ⟨T', D⟩ W) : code.wp P Q ⟨T, D⟩ w :=
 Code.wp_mono (fun e a W ⟨h1, h3, h4⟩ => by
  obtain ⟨t, d⟩ := a
  simp only at h3
  subst h1 h3
  exact h2 _ _ h4) h
end Go.Proofs.YtioildojmckepaaGreatDoor

