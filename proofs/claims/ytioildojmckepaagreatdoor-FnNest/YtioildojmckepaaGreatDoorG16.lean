/- Several texts of one claim in one file: WCutR, WBase1S, WDec, WSrc, WJoinS, WDraw. -/
import Derived.Test.YtioildojmckepaaGreatDoorG10
import Derived.Test.YtioildojmckepaaGreatDoorG01
import Derived.Test.YtioildojmckepaaGreatDoorG14
import Derived.Test.YtioildojmckepaaGreatDoorWGetP
import Derived.Test.YtioildojmckepaaGreatDoorG06
import Derived.Test.YtioildojmckepaaGreatDoorG04
import Derived.Deep.Draws
import Derived.Test.YtioildojmckepaaGreatDoorProg
import Derived.WalkSpells
import Derived.RegionTactic
import Derived.Deep.QuietTactic
import Derived.BigQuiet
import Derived.ChangeAlike
import Derived.Deep.RegionHeld3
namespace Go.Proofs.YtioildojmckepaaGreatDoor
open Go.RowKit Go.Maps
namespace WCutF
set_option linter.unusedSimpArgs false in
set_option maxRecDepth 100000 in
set_option maxHeartbeats 2000000 in
theorem zb8 (a : Option Addr) (cap : Nat) (L : List Pl.Nd) (p : ByteArray) (n : Pl.Nd) (c : Int) (hV : Pl.getV L p = .agg #[.string n.path, .int .i64 n.kind, .string n.data, .int .i64 n.time, .int .i64 n.mark, .int .i64 c]) (w : World) (hl : L.length ≤ 1048576) (hv : Mem.zb5 w a L) (hok : ∀ n ∈ L, n.path.size ≤ 1048576 ∧ n.data.size ≤ 1048576) (hp : p.size ≤ 1048576) :
  Calls Tryz.prog 77 #[.agg #[.slice a L.length cap], .string p] w fun e w' => ∃ v, e = .returned (.agg #[v, .int .i64 c]) ∧ Mem.ownN w' w.heap.size v (Pl.cutO p L c) ∧ Below w.heap.size w w' := by
 have b0 : Below w.heap.size w ((w.alloc (.cells #[.slice a L.length cap] 36)).alloc (.cells #[.slice none 0 0, .int .i64 0] 62)) := ((Below.refl _ _).alloc (Nat.le_refl _) _).alloc (by simp) _
 have hg := hide (WGetT.zb8 a cap L p _ hl (Mem.za5 hv b0) hok hp)
 rw [hV] at hg
 have hc := hide (fun W (b : Below w.heap.size w W) => WCutS.l03_any a cap L p W hl (Mem.za5 hv b) hp)
 have V1 := (Mem.Blk.new w #[.slice a L.length cap] 36).alloc (.cells #[.slice none 0 0, .int .i64 0] 62)
 have V2 : Mem.Blk ((w.alloc (.cells #[.slice a L.length cap] 36)).alloc (.cells #[.slice none 0 0, .int .i64 0] 62)) (w.heap.size + 1) #[.slice none 0 0, .int .i64 0] 62 := Mem.zu4 _ _ _
 clear hv hok hV
 by_cases h0 : c = 0
 ·subst h0
  rw [show Pl.cutO p L 0 = Pl.offL p L from rfl]
  go_enter Tryz.func77, Tryz.ntmps77
  go_wp2_with fail
  refine (za hg).mono ?_
  rintro e w1 ⟨rfl, b1⟩
  have b2 := b0.trans (b1.mono b0.size)
  have b3 := b2.alloc b2.size (.cells #[.string n.path, .int .i64 n.kind, .string n.data, .int .i64 n.time, .int .i64 n.mark, .int .i64 0] 126)
  have V3 := (V2.call b1).alloc (.cells #[.string n.path, .int .i64 n.kind, .string n.data, .int .i64 n.time, .int .i64 n.mark, .int .i64 0] 126)
  have c0 := ((V1.call b1).alloc (.cells #[.string n.path, .int .i64 n.kind, .string n.data, .int .i64 n.time, .int .i64 n.mark, .int .i64 0] 126)).cell 0
  simp only [kA0, kA1] at c0
  have hs : w.heap.size + 1 < (w1.alloc (.cells #[.string n.path, .int .i64 n.kind, .string n.data, .int .i64 n.time, .int .i64 n.mark, .int .i64 0] 126)).heap.size := V3.lt
  clear hg b0 b1 V1 V2 b2
  go_wp2_with fail
  refine (za hc _ b3).mono ?_
  rintro e w3 ⟨v, rfl, own, b4⟩
  obtain ⟨a', cap', rfl⟩ := Mem.za3 own
  have OW := hide own
  have b5 := b3.trans (b4.mono b3.size)
  have V4 := V3.call b4
  have d0 := V4.cell 0
  have d1 := V4.cell 1
  have f0 := V4.fr 0
  have f1 := V4.fr 1
  simp only [kGs] at d0 d1
  have HS := hide hs
  clear b3 b4 V3 hc own c0 hs
  go_wp2
  refine bodyPost_ret (v := .agg #[.slice a' (Pl.offL p L).length cap', .int .i64 0]) (by simp [results, Tryz.results77, go_sem, d0, d1]) rfl ⟨_, rfl, ?_, ?_⟩
  ·exact Mem.zb7 (Mem.za4 (Mem.za4 (za OW) _ _ (za HS)) _ _ (za HS)) (by have := za HS; omega)
  ·exact (b5.setCell (by show w.heap.size ≤ w.heap.size + 1; omega) _).setCell (by show w.heap.size ≤ w.heap.size + 1; omega) _
 ·have t0 : (c == 0) = false := by simpa using h0
  rw [show Pl.cutO p L c = [] by rw [Pl.cutO, if_neg h0]]
  clear hc h0
  go_enter Tryz.func77, Tryz.ntmps77
  go_wp2_with fail
  refine (za hg).mono ?_
  rintro e w1 ⟨rfl, b1⟩
  have b2 := b0.trans (b1.mono b0.size)
  have b3 := b2.alloc b2.size (.cells #[.string n.path, .int .i64 n.kind, .string n.data, .int .i64 n.time, .int .i64 n.mark, .int .i64 c] 126)
  have V3 := (V2.call b1).alloc (.cells #[.string n.path, .int .i64 n.kind, .string n.data, .int .i64 n.time, .int .i64 n.mark, .int .i64 c] 126)
  clear hg b0 b1 V1 V2 b2
  go_wp2_with fail
  refine (zj4.zg5 c _).mono ?_
  rintro e w3 ⟨rfl, b4⟩
  have b5 := b3.trans (b4.mono b3.size)
  have V4 := V3.call b4
  have d0 := V4.cell 0
  have d1 := V4.cell 1
  have f0 := V4.fr 0
  have f1 := V4.fr 1
  simp only [kGs] at d0 d1
  clear b3 b4 V3
  go_wp2
  refine bodyPost_ret (v := .agg #[.slice none 0 0, .int .i64 c]) (by simp [results, Tryz.results77, go_sem, d0, d1]) rfl ⟨_, rfl, Mem.zc7 _ _, ?_⟩
  exact (b5.setCell (by show w.heap.size ≤ w.heap.size + 1; omega) _).setCell (by show w.heap.size ≤ w.heap.size + 1; omega) _
end WCutF
end Go.Proofs.YtioildojmckepaaGreatDoor

namespace Go.Proofs.YtioildojmckepaaGreatDoor
open Go.RowKit
namespace zf3
theorem base1_any (s : ByteArray) (w : World) (hs : s.size ≤ maxLen) :
  Calls Tryz.prog 75 #[.string s] w fun e w' => e = .returned (.string (Pl.base s)) ∧ w' = w := by
 have hb := Pl.slash_lt s s.size
 have hc := hide (fun W => cut_any s W hs)
 unfold maxLen at hs
 have E : Hid (Pl.base s = s.extract (Pl.zd6 s s.size + 1).toNat s.size) := rfl
 generalize Pl.base s = R at E ⊢
 generalize Pl.zd6 s s.size = k at hc hb E
 have t1 : 0 ≤ k + 1 := by omega
 have t2 : k + 1 ≤ (s.size : Int) := by omega
 go_enter Tryz.func75, Tryz.ntmps75
 go_wp2_with (go_at_call 90; refine (za hc _).mono ?_; rintro e w' ⟨rfl, hw⟩; obtain rfl := hw.symm)
 go_ret
 exact ⟨zd3 (za E).symm, rfl⟩
end zf3
end Go.Proofs.YtioildojmckepaaGreatDoor

namespace Go.Proofs.YtioildojmckepaaGreatDoor
open Go.RowKit
namespace WDec
set_option maxRecDepth 100000 in
set_option maxHeartbeats 400000 in
theorem dec_any (K : Nat) (w : World) (h0 : 0 < K) (hK : K ≤ 1000000) :
  Calls Tryz.prog 78 #[.int .i64 (K : Int)] w fun e w' => ∃ t : ByteArray, t.size ≤ K ∧ e = .returned (.string t) ∧ Below w.heap.size w w' := by
 have p1 : ¬ (K : Int) = 0 := by omega
 have p3 : ¬ (K : Int) < 0 := by omega
 go_enter Tryz.func78, Tryz.ntmps78
 go_wp2
 go_loopw [0, 4] (fun a o wr => ∃ (k : Nat) (out : List UInt8), out.length + k ≤ K ∧ a = .int .i64 (k : Int) ∧ o = .string ⟨out.toArray⟩ ∧ Below w.heap.size w wr) (fun a _ _ => (intOf a).toNat)
 case atStart => exact ⟨K, [], by simp, rfl, rfl, Below.refl _ _⟩
 case round =>
  obtain ⟨k, out, hk, rfl, rfl, hbel⟩ := hrel
  have hsz := hbel.size
  have ho : ¬ 9223372036854775807 < 1 + out.length := by omega
  by_cases hk0 : 0 < k
  ·have p2 : ¬ (k : Int) = 0 := by omega
   have p4 : ¬ (k : Int) % 10 < 0 := by omega
   have p5 : ¬ (k : Int).tmod 10 < 0 := by have := Int.tmod_nonneg 10 (show (0 : Int) ≤ (k : Int) by omega); omega
   have hb : ((UInt8.ofNat (48 + k % 10)).toNat : Int) = 48 + (k : Int) % 10 := by
    rw [UInt8.toNat_ofNat_of_lt' (by show 48 + k % 10 < 256; omega)]; omega
   have hcv := Mem.zy4 (P := Tryz.prog) (w := wr.alloc (.cells #[.int .u8 (48 + (k : Int) % 10)] 5)) (n := 1) (cap := 1) Tryz.underlying22 Tryz.underlying5 Tryz.underlying9 [UInt8.ofNat (48 + k % 10)] rfl (heap_alloc_new wr _) (by simp only [List.map_cons, List.map_nil, Pl.zd2, hb]; rfl)
   have HX : Hid ((⟨[UInt8.ofNat (48 + k % 10)].toArray⟩ : ByteArray) ++ (⟨out.toArray⟩ : ByteArray) = ⟨(UInt8.ofNat (48 + k % 10) :: out).toArray⟩) := by
    show _ = _
    rw [Pl.yc8]; rfl
   have hbel2 := hbel.alloc hsz (.cells #[.int .u8 (48 + (k : Int) % 10)] 5)
   generalize UInt8.ofNat (48 + k % 10) = b at hcv HX
   clear hb
   go_wp2
   go_roundw
   case rel => exact ⟨k / 10, b :: out, by simp; omega, by go_num, congrArg Value.string HX.out, hbel2⟩
   case measure => simp [intOf]; omega
  ·obtain rfl : k = 0 := by omega
   go_wp2
   go_ret
   exact ⟨_, by show out.toArray.size ≤ K; simp; omega, rfl, hbel⟩
end WDec
end Go.Proofs.YtioildojmckepaaGreatDoor

namespace Go.Proofs.YtioildojmckepaaGreatDoor
open Go.RowKit
namespace WSrc
def RowB (w : World) (S : Nat) (a : Option Addr) (len cap : Nat) : Prop :=
 len ≤ cap ∧ cap ≤ maxLen ∧ ∀ i, i < len → ∃ b o n : Nat, a = some ⟨b, o, none⟩ ∧ b < S ∧ n < 256 ∧ w.cell? ⟨b, o + i, none⟩ = some (.int .u8 (n : Int))
def Src (w : World) (S : Nat) (a : Option Addr) (len cap : Nat) : Prop :=
 RowB w S a len cap ∧ ∃ (p : Nat) (m sz : Int), w.heap[S]? = some (.cells #[.slice a len cap, .int .i64 (p : Int), .int .u64 m, .int .i64 sz] 80 (0, 0)) ∧ p ≤ len ∧ 0 ≤ sz ∧ sz ≤ 12
theorem zq8 {w w' : World} {b o : Nat} (h : w'.heap[b]? = w.heap[b]?) : w'.cell? ⟨b, o, none⟩ = w.cell? ⟨b, o, none⟩ := by simp [World.cell?, h]
theorem low {x most : Int} (h1 : 1 < most) (h2 : most ≤ 1099511627776) : 0 ≤ wrap64 ((IntKind.u64.wrap x).tmod most) ∧ wrap64 ((IntKind.u64.wrap x).tmod most) < most := by
 have h0 : 0 ≤ IntKind.u64.wrap x := by simp [IntKind.wrap, IntKind.bits, IntKind.signed]; omega
 have h3 := Int.tmod_nonneg most h0
 have h4 := Int.tmod_lt_of_pos (IntKind.u64.wrap x) (show 0 < most by omega)
 rw [show wrap64 ((IntKind.u64.wrap x).tmod most) = (IntKind.u64.wrap x).tmod most from by unfold wrap64; omega]
 exact ⟨h3, h4⟩
theorem src_keep {w w' : World} {S len cap : Nat} {a : Option Addr} (hr : RowB w S a len cap) (hS : S < w.heap.size) (hg : w.grownBy w' (some S)) : RowB w' S a len cap :=
 ⟨hr.1, hr.2.1, fun i hi => by
  obtain ⟨b, o, n, h1, h2, h3, h4⟩ := hr.2.2 i hi
  exact ⟨b, o, n, h1, h2, h3, (zq8 (hg.block b (by omega) (fun e => by cases e; omega))).trans h4⟩⟩
theorem size_set (w : World) (a : Addr) (v : Value) : (w.setCell a v).heap.size = w.heap.size := by simp [World.setCell]
theorem ze4 {w w1 : World} {S j : Nat} {v : Value} (h : w.grownBy w1 (some S)) : w.grownBy (w1.setCell ⟨S, j, none⟩ v) (some S) :=
 ⟨h.os, h.tape, h.output, by rw [size_set]; exact h.size, fun k hk hne => (Below.heap_setCell _ _ _ _ (fun e => hne (by rw [e]))).trans (h.block k hk hne)⟩
theorem zy8 {w w1 : World} {r : Option Nat} (h : w.grownBy w1 r) : w.grownBy w1.drew r := ⟨h.os, h.tape, h.output, h.size, h.block⟩
theorem zl1 {w w1 : World} {r : Option Nat} (h : w.grownBy w1 r) (q : Nat) : w.grownBy (w1.drewN q) r := ⟨h.os, h.tape, h.output, h.size, h.block⟩
theorem heap_drew {w : World} {S : Nat} {o : Obj} (h : w.heap[S]? = some o) : w.drew.heap[S]? = some o := h
theorem heap_drewN {w : World} {S q : Nat} {o : Obj} (h : w.heap[S]? = some o) : (w.drewN q).heap[S]? = some o := h
theorem done {w w1 : World} {S len cap p : Nat} {a : Option Addr} {v : Value} {m sz : Int} {C : Array Value} (hr : RowB w S a len cap) (hS : S < w.heap.size) (hp : p ≤ len) (hz0 : 0 ≤ sz) (hz1 : sz ≤ 12) (hg : w.grownBy w1 (some S))
  (hb : w1.heap[S]? = some (.cells C 80 (0, 0))) (hC : C = #[.slice a len cap, .int .i64 (p : Int), v, .int .i64 sz]) (hv : v = .int .u64 m) : Src w1 S a len cap ∧ w.grownBy w1 (some S) :=
 ⟨⟨src_keep hr hS hg, p, m, sz, by rw [hb, hC, hv], hp, hz0, hz1⟩, hg⟩
theorem zt1 (w : World) (r : Option Nat) : w.grownBy w r := ⟨rfl, rfl, rfl, Nat.le_refl _, fun _ _ _ => rfl⟩
set_option maxRecDepth 100000 in
set_option maxHeartbeats 400000 in
theorem n_big (S : Nat) (a : Option Addr) (len cap : Nat) (most : Int) (w : World) (hs : Src w S a len cap) (hm : most ≤ 1099511627776) :
  Calls Tryz.prog 29 #[.pointer (some ⟨S, 0, none⟩), .int .i64 most] w fun e w' => ∃ r : Int, e = .returned (.int .i64 r) ∧ 0 ≤ r ∧ (r = 0 ∨ r < most) ∧ Src w' S a len cap ∧ w.grownBy w' (some S) := by
 by_cases h1 : most ≤ 1
 ·go_enter Tryz.func29, Tryz.ntmps29
  go_wp2
  go_ret
  exact ⟨0, rfl, by omega, .inl rfl, hs, zt1 _ _⟩
 obtain ⟨hrow, p, m, sz, hb, hp, hz0, hz1⟩ := hs
 have hS : S < w.heap.size := (Array.getElem?_eq_some_iff.1 hb).1
 have c0 : w.cell? ⟨S, 0, none⟩ = some (.slice a len cap) := by rw [cell_of_row w S 0 _ _ (0, 0) hb]; rfl
 have c1 : w.cell? ⟨S, 1, none⟩ = some (.int .i64 (p : Int)) := by rw [cell_of_row w S 1 _ _ (0, 0) hb]; rfl
 have c2 : w.cell? ⟨S, 2, none⟩ = some (.int .u64 m) := by rw [cell_of_row w S 2 _ _ (0, 0) hb]; rfl
 have f0 : ∀ j, w.frozen? ⟨S, j, none⟩ = false := fun j => Mem.zj0 hb
 have HB := hide hb
 have HR := hide hrow
 have f1 := f0 1
 have f2 := f0 2
 have hl : (len : Int) ≤ 9223372036854775807 := by have h1 := hrow.2.1; have h2 := hrow.1; unfold maxLen at h1; omega
 by_cases hlt : p < len
 ·obtain ⟨b, o, n, rfl, hbS, hn, hc⟩ := hrow.2.2 p hlt
  have t1 : (p : Int) < (len : Int) := by omega
  have k2 : ∀ q v1 v2, (((w.drewN q).setCell ⟨S, 1, none⟩ v1).setCell ⟨S, 2, none⟩ v2).cell? ⟨S, 2, none⟩ = some v2 := fun q v1 v2 => World.cell?_setCell_same' _ _ _ (by rw [World.cell?_setCell_other _ _ _ _ (by simp)]; simp [c2])
  have k3 : ∀ q v1 v2 v3, ((((w.drewN q).setCell ⟨S, 1, none⟩ v1).setCell ⟨S, 2, none⟩ v2).setCell ⟨S, 2, none⟩ v3).cell? ⟨S, 2, none⟩ = some v3 := fun q v1 v2 v3 => World.cell?_setCell_same' _ _ _ (by rw [k2]; rfl)
  clear hb hrow f0
  go_enter Tryz.func29, Tryz.ntmps29
  go_wp2
  go_quiet (fail)
  go_wp2
  go_quiet (fail)
  go_wp2
  go_region
  go_wp2
  go_region
  go_wp2
  go_region
  go_wp2
  go_ret
  refine ⟨_, rfl, (low (by omega) hm).1, .inr (low (by omega) hm).2, ?_⟩
  exact done (p := p + 1) (sz := sz) (za HR) hS (by omega) hz0 hz1 (by repeat (first | exact zt1 _ _ | apply zy8 | apply zl1 | apply ze4))
   (heap_drew (heap_drew (heap_drew (heap_setCell_same _ S 2 _ _ _ (heap_setCell_same _ S 2 _ _ _ (heap_setCell_same _ S 2 _ _ _ (heap_setCell_same _ S 1 _ _ _ (heap_drewN (za HB))))))))) rfl rfl
 ·have t1 : ¬ (p : Int) < (len : Int) := by omega
  have k2 : ∀ q v2, ((w.drewN q).setCell ⟨S, 2, none⟩ v2).cell? ⟨S, 2, none⟩ = some v2 := fun q v2 => World.cell?_setCell_same' _ _ _ (by simp [c2])
  have k3 : ∀ q v2 v3, (((w.drewN q).setCell ⟨S, 2, none⟩ v2).setCell ⟨S, 2, none⟩ v3).cell? ⟨S, 2, none⟩ = some v3 := fun q v2 v3 => World.cell?_setCell_same' _ _ _ (by rw [k2]; rfl)
  clear hb hrow f0
  go_enter Tryz.func29, Tryz.ntmps29
  go_wp2
  go_quiet (fail)
  go_wp2
  go_region
  go_wp2
  go_region
  go_wp2
  go_region
  go_wp2
  go_ret
  refine ⟨_, rfl, (low (by omega) hm).1, .inr (low (by omega) hm).2, ?_⟩
  exact done (p := p) (sz := sz) (za HR) hS (by omega) hz0 hz1 (by repeat (first | exact zt1 _ _ | apply zy8 | apply zl1 | apply ze4))
   (heap_drew (heap_drew (heap_setCell_same _ S 2 _ _ _ (heap_setCell_same _ S 2 _ _ _ (heap_setCell_same _ S 2 _ _ _ (heap_drewN (za HB))))))) rfl rfl
theorem zc9 (S : Nat) (a : Option Addr) (len cap : Nat) (most : Int) (w : World) (hs : Src w S a len cap) (hm : most ≤ 1048576) :
  Calls Tryz.prog 29 #[.pointer (some ⟨S, 0, none⟩), .int .i64 most] w fun e w' => ∃ r : Int, e = .returned (.int .i64 r) ∧ 0 ≤ r ∧ (r = 0 ∨ r < most) ∧ Src w' S a len cap ∧ w.grownBy w' (some S) :=
 n_big S a len cap most w hs (by omega)
end WSrc
end Go.Proofs.YtioildojmckepaaGreatDoor

namespace Go.Proofs.YtioildojmckepaaGreatDoor
open Go.RowKit
namespace zf3
theorem join1_any (p n : ByteArray) (w : World) (hp : p.size ≤ 1048576) (hq : n.size ≤ 1048576) :
  Calls Tryz.prog 86 #[.string p, .string n] w fun e w' => e = .returned (.string (Pl.zq3 p n)) ∧ w' = w := by
 by_cases h0 : Pl.by_ p = []
 ·have E := hide (Pl.ye2 (n := n) h0)
  have d1 : p.toList.isEmpty = true := by rw [Pl.zc5]; simp [h0]
  clear h0
  go_enter Tryz.func86, Tryz.ntmps86
  go_wp2
  go_ret
  exact ⟨zd3 (za E).symm, rfl⟩
 ·have E : Hid (p ++ ⟨#[47]⟩ ++ n = Pl.zq3 p n) := by
   show _ = _
   apply Pl.zh
   rw [Pl.joinN_two h0]
   simp [Pl.by_]
  have d1 : p.toList.isEmpty = false := by rw [Pl.zc5]; simp [h0]
  clear h0
  generalize Pl.zq3 p n = R at E ⊢
  go_enter Tryz.func86, Tryz.ntmps86
  go_wp2
  go_ret
  exact ⟨by rw [← za E]; rfl, rfl⟩

end zf3
end Go.Proofs.YtioildojmckepaaGreatDoor

namespace Go.Proofs.YtioildojmckepaaGreatDoor
open Go.RowKit
namespace WSrc
theorem src_grown {w w' : World} {S len cap : Nat} {a : Option Addr} (h : Src w S a len cap) (hg : w.grownBy w' none) : Src w' S a len cap := by
 obtain ⟨hr, p, m, sz, hb, hp, h0, h1⟩ := h
 have hS : S < w.heap.size := (Array.getElem?_eq_some_iff.1 hb).1
 refine ⟨⟨hr.1, hr.2.1, fun i hi => ?_⟩, p, m, sz, (hg.block S hS (by simp)).trans hb, hp, h0, h1⟩
 obtain ⟨b, o, n, e1, e2, e3, e4⟩ := hr.2.2 i hi
 exact ⟨b, o, n, e1, e2, e3, (zq8 (hg.block b (by omega) (by simp))).trans e4⟩
theorem zr7 {w : World} {S len cap : Nat} {a : Option Addr} (h : Src w S a len cap) : S < w.heap.size := by
 obtain ⟨hr, p, m, sz, hb, _⟩ := h
 exact (Array.getElem?_eq_some_iff.1 hb).1
theorem zw6 {w w' : World} {S len cap : Nat} {a : Option Addr} (h : Src w S a len cap) (hb : Below w.heap.size w w') : Src w' S a len cap :=
 src_grown h ⟨hb.os, hb.tape, hb.output, hb.size, fun k hk _ => hb.block k hk⟩
theorem below_grown {w w' : World} (hb : Below w.heap.size w w') (r : Option Nat) : w.grownBy w' r := ⟨hb.os, hb.tape, hb.output, hb.size, fun k hk _ => hb.block k hk⟩
set_option maxRecDepth 100000 in
theorem zh5 (S : Nat) (a : Option Addr) (len cap : Nat) (most : Int) (w : World) (hs : Src w S a len cap) (hm : most ≤ 1048576) :
  Calls Tryz.prog 47 #[.pointer (some ⟨S, 0, none⟩), .int .i64 most] w fun e w' => ∃ r : Bool, e = .returned (.bool r) ∧ Src w' S a len cap ∧ w.grownBy w' (some S) := by
 have hn := hide (zc9 S a len cap most w hs hm)
 clear hs
 go_enter Tryz.func47, Tryz.ntmps47
 go_wp2_with fail
 refine (za hn).mono ?_
 rintro e w1 ⟨r, rfl, -, -, h1, h2⟩
 go_wp2
 go_ret
 exact ⟨_, rfl, h1, h2⟩
set_option maxRecDepth 100000 in
theorem zn9 (S g cp : Nat) (ts : List ByteArray) (a : Option Addr) (len cap : Nat) (w : World) (hs : Src w S a len cap) (h0 : 0 < ts.length) (hl : ts.length ≤ 1000) (hg : g ≠ S)
  (hc : ∀ (k : Nat) t, ts[k]? = some t → w.cell? ⟨g, k, none⟩ = some (.string t)) :
  Calls Tryz.prog 89 #[.pointer (some ⟨S, 0, none⟩), .slice (some ⟨g, 0, none⟩) ts.length cp] w fun e w' => ∃ t, t ∈ ts ∧ e = .returned (.string t) ∧ Src w' S a len cap ∧ w.grownBy w' (some S) := by
 have hn := hide (zc9 S a len cap ts.length w hs (by omega))
 have HC := hide hc
 clear hs hc
 go_enter Tryz.func89, Tryz.ntmps89
 go_wp2_with fail
 refine (za hn).mono ?_
 rintro e w1 ⟨r, rfl, hr0, hr1, h1, h2⟩
 obtain ⟨k, rfl⟩ : ∃ k : Nat, r = (k : Int) := ⟨r.toNat, by omega⟩
 have hk : k < ts.length := by omega
 have hk2 : (k : Int) < (ts.length : Int) := by omega
 obtain ⟨t, ht⟩ : ∃ t, ts[k]? = some t := ⟨_, List.getElem?_eq_getElem hk⟩
 have hcell : w1.cell? ⟨g, k, none⟩ = some (.string t) := h2.cell (HC.out k t ht) (by simpa using hg)
 have HM := hide (List.mem_of_getElem? ht)
 clear ht hn hr1
 go_wp2
 go_ret
 exact ⟨t, za HM, rfl, h1, h2⟩
theorem zm5 (w : World) (ts : List ByteArray) (e : TypeId) : ∀ (k : Nat) t, ts[k]? = some t → (w.alloc (.cells (ts.map Value.string).toArray e)).cell? ⟨w.heap.size, k, none⟩ = some (.string t) := by
 intro k t ht
 rw [cell_of_row _ w.heap.size k _ e (0, 0) (heap_alloc_new w _)]
 simp [ht]
theorem zh6 {w : World} {S len cap : Nat} {a : Option Addr} (h : Src w S a len cap) (o : Obj) : Src (w.alloc o) S a len cap := src_grown h (World.grownBy_alloc w o none)
set_option maxRecDepth 100000 in
theorem name_any (S : Nat) (a : Option Addr) (len cap : Nat) (w : World) (hs : Src w S a len cap) :
  Calls Tryz.prog 88 #[.pointer (some ⟨S, 0, none⟩)] w fun e w' => ∃ t, t.size ≤ 2 ∧ e = .returned (.string t) ∧ Src w' S a len cap ∧ w.grownBy w' (some S) := by
 have hS := zr7 hs
 have hp := hide (fun ts h0 h1 => zn9 S w.heap.size ts.length ts a len cap (w.alloc (.cells (ts.map Value.string).toArray 9)) (zh6 hs _) h0 h1 (by omega) (zm5 w ts _))
 clear hs
 go_enter Tryz.func88, Tryz.ntmps88
 go_wp2_with fail
 refine (za hp [⟨#[97]⟩, ⟨#[98]⟩, ⟨#[99]⟩, ⟨#[97, 97]⟩] (by simp) (by simp)).mono ?_
 rintro e w1 ⟨t, hm, rfl, h1, h2⟩
 have hz : t.size ≤ 2 := by
  simp only [List.mem_cons, List.not_mem_nil, or_false] at hm
  rcases hm with rfl | rfl | rfl | rfl <;> decide
 clear hm hp
 go_wp2
 go_ret
 exact ⟨t, hz, rfl, h1, (World.grownBy_alloc w _ _).trans h2⟩
theorem yc9 (p n : ByteArray) : (Pl.zq3 p n).size ≤ p.size + n.size + 1 := by
 by_cases h : Pl.by_ p = []
 ·rw [Pl.ye2 h]; omega
 ·have := congrArg List.length (Pl.joinN_two (n := n) h)
  rw [List.length_append, List.length_cons, Pl.zb9, Pl.zb9, Pl.zb9] at this
  omega
set_option maxRecDepth 100000 in
theorem path_any (S : Nat) (a : Option Addr) (len cap : Nat) (w : World) (hs : Src w S a len cap) :
  Calls Tryz.prog 87 #[.pointer (some ⟨S, 0, none⟩)] w fun e w' => ∃ t, t.size ≤ 20 ∧ e = .returned (.string t) ∧ Src w' S a len cap ∧ w.grownBy w' (some S) := by
 have hn := hide (zc9 S a len cap 4 w hs (by omega))
 clear hs
 go_enter Tryz.func87, Tryz.ntmps87
 go_wp2_with fail
 refine (za hn).mono ?_
 rintro e w1 ⟨r, rfl, hr0, hr1, h1, h2⟩
 clear hn
 go_wp2
 go_loopw [3, 4] (fun t i wr => ∃ (k : Nat) (t0 : ByteArray), k ≤ 3 ∧ i = .int .i64 (k : Int) ∧ t = .string t0 ∧ t0.size + 3 * k ≤ 9 ∧ Src wr S a len cap ∧ w.grownBy wr (some S)) (fun _ i _ => (intOf i).toNat)
 case atStart => exact ⟨r.toNat, ⟨#[]⟩, by omega, by congr 1; omega, rfl, by show 0 + 3 * r.toNat ≤ 9; omega, h1, h2⟩
 case round =>
  obtain ⟨k, t0, hk, rfl, rfl, hz, hs, hg⟩ := hrel
  by_cases h0 : 0 < k
  ·have hk1 : (0 : Int) < (k : Int) := by omega
   go_wp2_with fail
   refine (name_any S a len cap _ hs).mono ?_
   rintro e w2 ⟨t, ht, rfl, h3, h4⟩
   go_wp2_with fail
   refine (zf3.join1_any t0 t _ (by omega) (by omega)).mono ?_
   rintro e w3 ⟨rfl, rfl⟩
   have hj := yc9 t0 t
   generalize Pl.zq3 t0 t = t1 at hj
   have hg2 := hg.trans h4
   clear hs hg h4
   go_wp2
   go_roundw
   case rel => exact ⟨k - 1, t1, by omega, by congr 1; omega, rfl, by omega, h3, hg2⟩
   case measure => simp [intOf]; omega
  ·obtain rfl : k = 0 := by omega
   go_wp2_with fail
   refine (zh5 S a len cap 20 _ hs (by omega)).mono ?_
   rintro e w2 ⟨b, rfl, h3, h4⟩
   have hg2 := hg.trans h4
   clear hs hg h4
   cases b
   ·go_wp2
    go_ret
    exact ⟨t0, by omega, rfl, h3, hg2⟩
   ·have hS := zr7 h3
    have hp := hide (fun ts h0 h1 => zn9 S w2.heap.size ts.length ts a len cap (w2.alloc (.cells (ts.map Value.string).toArray 9)) (zh6 h3 _) h0 h1 (by omega) (zm5 w2 ts _))
    go_wp2_with fail
    refine (za hp [⟨#[47]⟩, ⟨#[97, 47]⟩, ⟨#[47, 97]⟩, ⟨#[65]⟩, ⟨#[97, 47, 47, 98]⟩, ⟨#[97, 47, 98, 47, 99, 47, 97, 47, 98, 47, 99]⟩, ⟨#[97, 47, 98, 47, 99, 47, 97, 47, 98, 47, 99, 47, 97]⟩] (by simp) (by simp)).mono ?_
    rintro e w3 ⟨t, hm, rfl, h5, h6⟩
    have hz2 : t.size ≤ 20 := by
     simp only [List.mem_cons, List.not_mem_nil, or_false] at hm
     rcases hm with rfl | rfl | rfl | rfl | rfl | rfl | rfl <;> decide
    have hg3 := hg2.trans ((World.grownBy_alloc w2 _ _).trans h6)
    clear hm hp h6 hg2
    go_wp2
    go_ret
    exact ⟨t, hz2, rfl, h5, hg3⟩
end WSrc
end Go.Proofs.YtioildojmckepaaGreatDoor

