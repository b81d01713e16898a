/- Several texts of one claim in one file: WDec, WSrc, WJoinS, WDraw. -/
import Derived.Test.YtfdbokipgofcdaaGreatDoorG02
import Derived.Deep.Draws
import Derived.Test.YtfdbokipgofcdaaGreatDoorProg
import Derived.WalkSpells
import Derived.RegionTactic
import Derived.Test.YtfdbokipgofcdaaGreatDoorG00
import Derived.Deep.QuietTactic
import Derived.BigQuiet
import Derived.ChangeAlike
import Derived.Deep.RegionHeld3
namespace Go.Proofs.YtfdbokipgofcdaaGreatDoor
open Go.RowKit
namespace WDec
set_option maxRecDepth 100000 in
set_option maxHeartbeats 400000 in
theorem dec_any (K : Nat) (w : World) (h0 : 0 < K) (hK : K ≤ 1000000) :
  Calls Tryz.prog 105 #[.int .i64 (K : Int)] w fun e w' => ∃ t : ByteArray, t.size ≤ K ∧ e = .returned (.string t) ∧ Below w.heap.size w w' := by
 have p1 : ¬ (K : Int) = 0 := by omega
 have p3 : ¬ (K : Int) < 0 := by omega
 go_enter Tryz.func105, Tryz.ntmps105
 go_wp2
 go_loopw [0, 4] (fun a o wr => ∃ (k : Nat) (out : List UInt8), out.length + k ≤ K ∧ a = .int .i64 (k : Int) ∧ o = .string ⟨out.toArray⟩ ∧ Below w.heap.size w wr) (fun a _ _ => (intOf a).toNat)
 case atStart => exact ⟨K, [], by simp, rfl, rfl, Below.refl _ _⟩
 case round =>
  obtain ⟨k, out, hk, rfl, rfl, hbel⟩ := hrel
  have hsz := hbel.size
  have ho : ¬ 9223372036854775807 < 1 + out.length := by omega
  by_cases hk0 : 0 < k
  ·have p2 : ¬ (k : Int) = 0 := by omega
   have p4 : ¬ (k : Int) % 10 < 0 := by omega
   have p5 : ¬ (k : Int).tmod 10 < 0 := by have := Int.tmod_nonneg 10 (show (0 : Int) ≤ (k : Int) by omega); omega
   have hb : ((UInt8.ofNat (48 + k % 10)).toNat : Int) = 48 + (k : Int) % 10 := by
    rw [UInt8.toNat_ofNat_of_lt' (by show 48 + k % 10 < 256; omega)]; omega
   have hcv := Mem.yn7 (P := Tryz.prog) (w := wr.alloc (.cells #[.int .u8 (48 + (k : Int) % 10)] 5)) (n := 1) (cap := 1) Tryz.underlying22 Tryz.underlying5 Tryz.underlying9 [UInt8.ofNat (48 + k % 10)] rfl (heap_alloc_new wr _) (by simp only [List.map_cons, List.map_nil, Pl.ze6, hb]; rfl)
   have HX : Hid ((⟨[UInt8.ofNat (48 + k % 10)].toArray⟩ : ByteArray) ++ (⟨out.toArray⟩ : ByteArray) = ⟨(UInt8.ofNat (48 + k % 10) :: out).toArray⟩) := by
    show _ = _
    rw [Pl.yu]; rfl
   have hbel2 := hbel.alloc hsz (.cells #[.int .u8 (48 + (k : Int) % 10)] 5)
   generalize UInt8.ofNat (48 + k % 10) = b at hcv HX
   clear hb
   go_wp2
   go_roundw
   case rel => exact ⟨k / 10, b :: out, by simp; omega, by go_num, congrArg Value.string HX.out, hbel2⟩
   case measure => simp [intOf]; omega
  ·obtain rfl : k = 0 := by omega
   go_wp2
   go_ret
   exact ⟨_, by show out.toArray.size ≤ K; simp; omega, rfl, hbel⟩
end WDec
end Go.Proofs.YtfdbokipgofcdaaGreatDoor

namespace Go.Proofs.YtfdbokipgofcdaaGreatDoor
open Go.RowKit
namespace WSrc
def RowB (w : World) (S : Nat) (a : Option Addr) (len cap : Nat) : Prop :=
 len ≤ cap ∧ cap ≤ maxLen ∧ ∀ i, i < len → ∃ b o n : Nat, a = some ⟨b, o, none⟩ ∧ b < S ∧ n < 256 ∧ w.cell? ⟨b, o + i, none⟩ = some (.int .u8 (n : Int))
def Src (w : World) (S : Nat) (a : Option Addr) (len cap : Nat) : Prop :=
 RowB w S a len cap ∧ ∃ (p : Nat) (m sz : Int), w.heap[S]? = some (.cells #[.slice a len cap, .int .i64 (p : Int), .int .u64 m, .int .i64 sz] 92 (0, 0)) ∧ p ≤ len ∧ 0 ≤ sz ∧ sz ≤ 12
theorem yc2 {w w' : World} {b o : Nat} (h : w'.heap[b]? = w.heap[b]?) : w'.cell? ⟨b, o, none⟩ = w.cell? ⟨b, o, none⟩ := by simp [World.cell?, h]
theorem low {x most : Int} (h1 : 1 < most) (h2 : most ≤ 1099511627776) : 0 ≤ wrap64 ((IntKind.u64.wrap x).tmod most) ∧ wrap64 ((IntKind.u64.wrap x).tmod most) < most := by
 have h0 : 0 ≤ IntKind.u64.wrap x := by simp [IntKind.wrap, IntKind.bits, IntKind.signed]; omega
 have h3 := Int.tmod_nonneg most h0
 have h4 := Int.tmod_lt_of_pos (IntKind.u64.wrap x) (show 0 < most by omega)
 rw [show wrap64 ((IntKind.u64.wrap x).tmod most) = (IntKind.u64.wrap x).tmod most from by unfold wrap64; omega]
 exact ⟨h3, h4⟩
theorem src_keep {w w' : World} {S len cap : Nat} {a : Option Addr} (hr : RowB w S a len cap) (hS : S < w.heap.size) (hg : w.grownBy w' (some S)) : RowB w' S a len cap :=
 ⟨hr.1, hr.2.1, fun i hi => by
  obtain ⟨b, o, n, h1, h2, h3, h4⟩ := hr.2.2 i hi
  exact ⟨b, o, n, h1, h2, h3, (yc2 (hg.block b (by omega) (fun e => by cases e; omega))).trans h4⟩⟩
theorem size_set (w : World) (a : Addr) (v : Value) : (w.setCell a v).heap.size = w.heap.size := by simp [World.setCell]
theorem zb3 {w w1 : World} {S j : Nat} {v : Value} (h : w.grownBy w1 (some S)) : w.grownBy (w1.setCell ⟨S, j, none⟩ v) (some S) :=
 ⟨h.os, h.tape, h.output, by rw [size_set]; exact h.size, fun k hk hne => (Below.heap_setCell _ _ _ _ (fun e => hne (by rw [e]))).trans (h.block k hk hne)⟩
theorem ym4 {w w1 : World} {r : Option Nat} (h : w.grownBy w1 r) : w.grownBy w1.drew r := ⟨h.os, h.tape, h.output, h.size, h.block⟩
theorem zs2 {w w1 : World} {r : Option Nat} (h : w.grownBy w1 r) (q : Nat) : w.grownBy (w1.drewN q) r := ⟨h.os, h.tape, h.output, h.size, h.block⟩
theorem heap_drew {w : World} {S : Nat} {o : Obj} (h : w.heap[S]? = some o) : w.drew.heap[S]? = some o := h
theorem heap_drewN {w : World} {S q : Nat} {o : Obj} (h : w.heap[S]? = some o) : (w.drewN q).heap[S]? = some o := h
theorem done {w w1 : World} {S len cap p : Nat} {a : Option Addr} {v : Value} {m sz : Int} {C : Array Value} (hr : RowB w S a len cap) (hS : S < w.heap.size) (hp : p ≤ len) (hz0 : 0 ≤ sz) (hz1 : sz ≤ 12) (hg : w.grownBy w1 (some S))
  (hb : w1.heap[S]? = some (.cells C 92 (0, 0))) (hC : C = #[.slice a len cap, .int .i64 (p : Int), v, .int .i64 sz]) (hv : v = .int .u64 m) : Src w1 S a len cap ∧ w.grownBy w1 (some S) :=
 ⟨⟨src_keep hr hS hg, p, m, sz, by rw [hb, hC, hv], hp, hz0, hz1⟩, hg⟩
theorem yd8 (w : World) (r : Option Nat) : w.grownBy w r := ⟨rfl, rfl, rfl, Nat.le_refl _, fun _ _ _ => rfl⟩
set_option maxRecDepth 100000 in
set_option maxHeartbeats 400000 in
theorem n_big (S : Nat) (a : Option Addr) (len cap : Nat) (most : Int) (w : World) (hs : Src w S a len cap) (hm : most ≤ 1099511627776) :
  Calls Tryz.prog 37 #[.pointer (some ⟨S, 0, none⟩), .int .i64 most] w fun e w' => ∃ r : Int, e = .returned (.int .i64 r) ∧ 0 ≤ r ∧ (r = 0 ∨ r < most) ∧ Src w' S a len cap ∧ w.grownBy w' (some S) := by
 by_cases h1 : most ≤ 1
 ·go_enter Tryz.func37, Tryz.ntmps37
  go_wp2
  go_ret
  exact ⟨0, rfl, by omega, .inl rfl, hs, yd8 _ _⟩
 obtain ⟨hrow, p, m, sz, hb, hp, hz0, hz1⟩ := hs
 have hS : S < w.heap.size := (Array.getElem?_eq_some_iff.1 hb).1
 have c0 : w.cell? ⟨S, 0, none⟩ = some (.slice a len cap) := by rw [cell_of_row w S 0 _ _ (0, 0) hb]; rfl
 have c1 : w.cell? ⟨S, 1, none⟩ = some (.int .i64 (p : Int)) := by rw [cell_of_row w S 1 _ _ (0, 0) hb]; rfl
 have c2 : w.cell? ⟨S, 2, none⟩ = some (.int .u64 m) := by rw [cell_of_row w S 2 _ _ (0, 0) hb]; rfl
 have f0 : ∀ j, w.frozen? ⟨S, j, none⟩ = false := fun j => Mem.zi8 hb
 have HB := hide hb
 have HR := hide hrow
 have f1 := f0 1
 have f2 := f0 2
 have hl : (len : Int) ≤ 9223372036854775807 := by have h1 := hrow.2.1; have h2 := hrow.1; unfold maxLen at h1; omega
 by_cases hlt : p < len
 ·obtain ⟨b, o, n, rfl, hbS, hn, hc⟩ := hrow.2.2 p hlt
  have t1 : (p : Int) < (len : Int) := by omega
  have k2 : ∀ q v1 v2, (((w.drewN q).setCell ⟨S, 1, none⟩ v1).setCell ⟨S, 2, none⟩ v2).cell? ⟨S, 2, none⟩ = some v2 := fun q v1 v2 => World.cell?_setCell_same' _ _ _ (by rw [World.cell?_setCell_other _ _ _ _ (by simp)]; simp [c2])
  have k3 : ∀ q v1 v2 v3, ((((w.drewN q).setCell ⟨S, 1, none⟩ v1).setCell ⟨S, 2, none⟩ v2).setCell ⟨S, 2, none⟩ v3).cell? ⟨S, 2, none⟩ = some v3 := fun q v1 v2 v3 => World.cell?_setCell_same' _ _ _ (by rw [k2]; rfl)
  clear hb hrow f0
  go_enter Tryz.func37, Tryz.ntmps37
  go_wp2
  go_quiet (fail)
  go_wp2
  go_quiet (fail)
  go_wp2
  go_region
  go_wp2
  go_region
  go_wp2
  go_region
  go_wp2
  go_ret
  refine ⟨_, rfl, (low (by omega) hm).1, .inr (low (by omega) hm).2, ?_⟩
  exact done (p := p + 1) (sz := sz) (za HR) hS (by omega) hz0 hz1 (by repeat (first | exact yd8 _ _ | apply ym4 | apply zs2 | apply zb3))
   (heap_drew (heap_drew (heap_drew (heap_setCell_same _ S 2 _ _ _ (heap_setCell_same _ S 2 _ _ _ (heap_setCell_same _ S 2 _ _ _ (heap_setCell_same _ S 1 _ _ _ (heap_drewN (za HB))))))))) rfl rfl
 ·have t1 : ¬ (p : Int) < (len : Int) := by omega
  have k2 : ∀ q v2, ((w.drewN q).setCell ⟨S, 2, none⟩ v2).cell? ⟨S, 2, none⟩ = some v2 := fun q v2 => World.cell?_setCell_same' _ _ _ (by simp [c2])
  have k3 : ∀ q v2 v3, (((w.drewN q).setCell ⟨S, 2, none⟩ v2).setCell ⟨S, 2, none⟩ v3).cell? ⟨S, 2, none⟩ = some v3 := fun q v2 v3 => World.cell?_setCell_same' _ _ _ (by rw [k2]; rfl)
  clear hb hrow f0
  go_enter Tryz.func37, Tryz.ntmps37
  go_wp2
  go_quiet (fail)
  go_wp2
  go_region
  go_wp2
  go_region
  go_wp2
  go_region
  go_wp2
  go_ret
  refine ⟨_, rfl, (low (by omega) hm).1, .inr (low (by omega) hm).2, ?_⟩
  exact done (p := p) (sz := sz) (za HR) hS (by omega) hz0 hz1 (by repeat (first | exact yd8 _ _ | apply ym4 | apply zs2 | apply zb3))
   (heap_drew (heap_drew (heap_setCell_same _ S 2 _ _ _ (heap_setCell_same _ S 2 _ _ _ (heap_setCell_same _ S 2 _ _ _ (heap_drewN (za HB))))))) rfl rfl
theorem zd9 (S : Nat) (a : Option Addr) (len cap : Nat) (most : Int) (w : World) (hs : Src w S a len cap) (hm : most ≤ 1048576) :
  Calls Tryz.prog 37 #[.pointer (some ⟨S, 0, none⟩), .int .i64 most] w fun e w' => ∃ r : Int, e = .returned (.int .i64 r) ∧ 0 ≤ r ∧ (r = 0 ∨ r < most) ∧ Src w' S a len cap ∧ w.grownBy w' (some S) :=
 n_big S a len cap most w hs (by omega)
end WSrc
end Go.Proofs.YtfdbokipgofcdaaGreatDoor

namespace Go.Proofs.YtfdbokipgofcdaaGreatDoor
open Go.RowKit
namespace zh5
theorem join1_any (p n : ByteArray) (w : World) (hp : p.size ≤ 1048576) (hq : n.size ≤ 1048576) :
  Calls Tryz.prog 116 #[.string p, .string n] w fun e w' => e = .returned (.string (Pl.zg p n)) ∧ w' = w := by
 by_cases h0 : Pl.by_ p = []
 ·have E := hide (Pl.yv6 (n := n) h0)
  have d1 : p.toList.isEmpty = true := by rw [Pl.ze]; simp [h0]
  clear h0
  go_enter Tryz.func116, Tryz.ntmps116
  go_wp2
  go_ret
  exact ⟨zf2 (za E).symm, rfl⟩
 ·have E : Hid (p ++ ⟨#[47]⟩ ++ n = Pl.zg p n) := by
   show _ = _
   apply Pl.zh7
   rw [Pl.joinN_two h0]
   simp [Pl.by_]
  have d1 : p.toList.isEmpty = false := by rw [Pl.ze]; simp [h0]
  clear h0
  generalize Pl.zg p n = R at E ⊢
  go_enter Tryz.func116, Tryz.ntmps116
  go_wp2
  go_ret
  exact ⟨by rw [← za E]; rfl, rfl⟩

end zh5
end Go.Proofs.YtfdbokipgofcdaaGreatDoor

namespace Go.Proofs.YtfdbokipgofcdaaGreatDoor
open Go.RowKit
namespace WSrc
theorem src_grown {w w' : World} {S len cap : Nat} {a : Option Addr} (h : Src w S a len cap) (hg : w.grownBy w' none) : Src w' S a len cap := by
 obtain ⟨hr, p, m, sz, hb, hp, h0, h1⟩ := h
 have hS : S < w.heap.size := (Array.getElem?_eq_some_iff.1 hb).1
 refine ⟨⟨hr.1, hr.2.1, fun i hi => ?_⟩, p, m, sz, (hg.block S hS (by simp)).trans hb, hp, h0, h1⟩
 obtain ⟨b, o, n, e1, e2, e3, e4⟩ := hr.2.2 i hi
 exact ⟨b, o, n, e1, e2, e3, (yc2 (hg.block b (by omega) (by simp))).trans e4⟩
theorem zz1 {w : World} {S len cap : Nat} {a : Option Addr} (h : Src w S a len cap) : S < w.heap.size := by
 obtain ⟨hr, p, m, sz, hb, _⟩ := h
 exact (Array.getElem?_eq_some_iff.1 hb).1
theorem yb2 {w w' : World} {S len cap : Nat} {a : Option Addr} (h : Src w S a len cap) (hb : Below w.heap.size w w') : Src w' S a len cap :=
 src_grown h ⟨hb.os, hb.tape, hb.output, hb.size, fun k hk _ => hb.block k hk⟩
theorem below_grown {w w' : World} (hb : Below w.heap.size w w') (r : Option Nat) : w.grownBy w' r := ⟨hb.os, hb.tape, hb.output, hb.size, fun k hk _ => hb.block k hk⟩
set_option maxRecDepth 100000 in
theorem zk3 (S : Nat) (a : Option Addr) (len cap : Nat) (most : Int) (w : World) (hs : Src w S a len cap) (hm : most ≤ 1048576) :
  Calls Tryz.prog 54 #[.pointer (some ⟨S, 0, none⟩), .int .i64 most] w fun e w' => ∃ r : Bool, e = .returned (.bool r) ∧ Src w' S a len cap ∧ w.grownBy w' (some S) := by
 have hn := hide (zd9 S a len cap most w hs hm)
 clear hs
 go_enter Tryz.func54, Tryz.ntmps54
 go_wp2_with fail
 refine (za hn).mono ?_
 rintro e w1 ⟨r, rfl, -, -, h1, h2⟩
 go_wp2
 go_ret
 exact ⟨_, rfl, h1, h2⟩
set_option maxRecDepth 100000 in
theorem zw5 (S g cp : Nat) (ts : List ByteArray) (a : Option Addr) (len cap : Nat) (w : World) (hs : Src w S a len cap) (h0 : 0 < ts.length) (hl : ts.length ≤ 1000) (hg : g ≠ S)
  (hc : ∀ (k : Nat) t, ts[k]? = some t → w.cell? ⟨g, k, none⟩ = some (.string t)) :
  Calls Tryz.prog 119 #[.pointer (some ⟨S, 0, none⟩), .slice (some ⟨g, 0, none⟩) ts.length cp] w fun e w' => ∃ t, t ∈ ts ∧ e = .returned (.string t) ∧ Src w' S a len cap ∧ w.grownBy w' (some S) := by
 have hn := hide (zd9 S a len cap ts.length w hs (by omega))
 have HC := hide hc
 clear hs hc
 go_enter Tryz.func119, Tryz.ntmps119
 go_wp2_with fail
 refine (za hn).mono ?_
 rintro e w1 ⟨r, rfl, hr0, hr1, h1, h2⟩
 obtain ⟨k, rfl⟩ : ∃ k : Nat, r = (k : Int) := ⟨r.toNat, by omega⟩
 have hk : k < ts.length := by omega
 have hk2 : (k : Int) < (ts.length : Int) := by omega
 obtain ⟨t, ht⟩ : ∃ t, ts[k]? = some t := ⟨_, List.getElem?_eq_getElem hk⟩
 have hcell : w1.cell? ⟨g, k, none⟩ = some (.string t) := h2.cell (HC.out k t ht) (by simpa using hg)
 have HM := hide (List.mem_of_getElem? ht)
 clear ht hn hr1
 go_wp2
 go_ret
 exact ⟨t, za HM, rfl, h1, h2⟩
theorem zu (w : World) (ts : List ByteArray) (e : TypeId) : ∀ (k : Nat) t, ts[k]? = some t → (w.alloc (.cells (ts.map Value.string).toArray e)).cell? ⟨w.heap.size, k, none⟩ = some (.string t) := by
 intro k t ht
 rw [cell_of_row _ w.heap.size k _ e (0, 0) (heap_alloc_new w _)]
 simp [ht]
theorem zl2 {w : World} {S len cap : Nat} {a : Option Addr} (h : Src w S a len cap) (o : Obj) : Src (w.alloc o) S a len cap := src_grown h (World.grownBy_alloc w o none)
set_option maxRecDepth 100000 in
theorem name_any (S : Nat) (a : Option Addr) (len cap : Nat) (w : World) (hs : Src w S a len cap) :
  Calls Tryz.prog 118 #[.pointer (some ⟨S, 0, none⟩)] w fun e w' => ∃ t, t.size ≤ 2 ∧ e = .returned (.string t) ∧ Src w' S a len cap ∧ w.grownBy w' (some S) := by
 have hS := zz1 hs
 have hp := hide (fun ts h0 h1 => zw5 S w.heap.size ts.length ts a len cap (w.alloc (.cells (ts.map Value.string).toArray 9)) (zl2 hs _) h0 h1 (by omega) (zu w ts _))
 clear hs
 go_enter Tryz.func118, Tryz.ntmps118
 go_wp2_with fail
 refine (za hp [⟨#[97]⟩, ⟨#[98]⟩, ⟨#[99]⟩, ⟨#[97, 97]⟩] (by simp) (by simp)).mono ?_
 rintro e w1 ⟨t, hm, rfl, h1, h2⟩
 have hz : t.size ≤ 2 := by
  simp only [List.mem_cons, List.not_mem_nil, or_false] at hm
  rcases hm with rfl | rfl | rfl | rfl <;> decide
 clear hm hp
 go_wp2
 go_ret
 exact ⟨t, hz, rfl, h1, (World.grownBy_alloc w _ _).trans h2⟩
theorem yv3 (p n : ByteArray) : (Pl.zg p n).size ≤ p.size + n.size + 1 := by
 by_cases h : Pl.by_ p = []
 ·rw [Pl.yv6 h]; omega
 ·have := congrArg List.length (Pl.joinN_two (n := n) h)
  rw [List.length_append, List.length_cons, Pl.zc9, Pl.zc9, Pl.zc9] at this
  omega
set_option maxRecDepth 100000 in
theorem path_any (S : Nat) (a : Option Addr) (len cap : Nat) (w : World) (hs : Src w S a len cap) :
  Calls Tryz.prog 117 #[.pointer (some ⟨S, 0, none⟩)] w fun e w' => ∃ t, t.size ≤ 20 ∧ e = .returned (.string t) ∧ Src w' S a len cap ∧ w.grownBy w' (some S) := by
 have hn := hide (zd9 S a len cap 4 w hs (by omega))
 clear hs
 go_enter Tryz.func117, Tryz.ntmps117
 go_wp2_with fail
 refine (za hn).mono ?_
 rintro e w1 ⟨r, rfl, hr0, hr1, h1, h2⟩
 clear hn
 go_wp2
 go_loopw [3, 4] (fun t i wr => ∃ (k : Nat) (t0 : ByteArray), k ≤ 3 ∧ i = .int .i64 (k : Int) ∧ t = .string t0 ∧ t0.size + 3 * k ≤ 9 ∧ Src wr S a len cap ∧ w.grownBy wr (some S)) (fun _ i _ => (intOf i).toNat)
 case atStart => exact ⟨r.toNat, ⟨#[]⟩, by omega, by congr 1; omega, rfl, by show 0 + 3 * r.toNat ≤ 9; omega, h1, h2⟩
 case round =>
  obtain ⟨k, t0, hk, rfl, rfl, hz, hs, hg⟩ := hrel
  by_cases h0 : 0 < k
  ·have hk1 : (0 : Int) < (k : Int) := by omega
   go_wp2_with fail
   refine (name_any S a len cap _ hs).mono ?_
   rintro e w2 ⟨t, ht, rfl, h3, h4⟩
   go_wp2_with fail
   refine (zh5.join1_any t0 t _ (by omega) (by omega)).mono ?_
   rintro e w3 ⟨rfl, rfl⟩
   have hj := yv3 t0 t
   generalize Pl.zg t0 t = t1 at hj
   have hg2 := hg.trans h4
   clear hs hg h4
   go_wp2
   go_roundw
   case rel => exact ⟨k - 1, t1, by omega, by congr 1; omega, rfl, by omega, h3, hg2⟩
   case measure => simp [intOf]; omega
  ·obtain rfl : k = 0 := by omega
   go_wp2_with fail
   refine (zk3 S a len cap 20 _ hs (by omega)).mono ?_
   rintro e w2 ⟨b, rfl, h3, h4⟩
   have hg2 := hg.trans h4
   clear hs hg h4
   cases b
   ·go_wp2
    go_ret
    exact ⟨t0, by omega, rfl, h3, hg2⟩
   ·have hS := zz1 h3
    have hp := hide (fun ts h0 h1 => zw5 S w2.heap.size ts.length ts a len cap (w2.alloc (.cells (ts.map Value.string).toArray 9)) (zl2 h3 _) h0 h1 (by omega) (zu w2 ts _))
    go_wp2_with fail
    refine (za hp [⟨#[47]⟩, ⟨#[97, 47]⟩, ⟨#[47, 97]⟩, ⟨#[65]⟩, ⟨#[97, 47, 47, 98]⟩, ⟨#[97, 47, 98, 47, 99, 47, 97, 47, 98, 47, 99]⟩, ⟨#[97, 47, 98, 47, 99, 47, 97, 47, 98, 47, 99, 47, 97]⟩] (by simp) (by simp)).mono ?_
    rintro e w3 ⟨t, hm, rfl, h5, h6⟩
    have hz2 : t.size ≤ 20 := by
     simp only [List.mem_cons, List.not_mem_nil, or_false] at hm
     rcases hm with rfl | rfl | rfl | rfl | rfl | rfl | rfl <;> decide
    have hg3 := hg2.trans ((World.grownBy_alloc w2 _ _).trans h6)
    clear hm hp h6 hg2
    go_wp2
    go_ret
    exact ⟨t, hz2, rfl, h5, hg3⟩
end WSrc
end Go.Proofs.YtfdbokipgofcdaaGreatDoor

