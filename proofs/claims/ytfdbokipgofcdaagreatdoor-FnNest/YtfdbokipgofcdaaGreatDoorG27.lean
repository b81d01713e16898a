/- Several texts of one claim in one file: WSource, WDrawSi0. -/
import Derived.Test.YtfdbokipgofcdaaGreatDoorG22
import Derived.Test.YtfdbokipgofcdaaGreatDoorG25
namespace Go.Proofs.YtfdbokipgofcdaaGreatDoor
open Go.RowKit
namespace WSrc
theorem fin {w wr w1 : World} {len cap p : Nat} {a : Option Addr} {v : Value} {m sz : Int} {C : Array Value} (hr : RowB w w.heap.size a len cap) (hbel : Below w.heap.size w wr) (hp : p ≤ len) (hz0 : 0 ≤ sz) (hz1 : sz ≤ 12)
  (hsz : wr.heap.size ≤ w1.heap.size) (hk : ∀ j, j < w.heap.size → w1.heap[j]? = wr.heap[j]?) (e1 : w1.os = wr.os) (e2 : w1.tape = wr.tape) (e3 : w1.output = wr.output)
  (hb : w1.heap[w.heap.size]? = some (.cells C 92 (0, 0))) (hC : C = #[.slice a len cap, .int .i64 (p : Int), v, .int .i64 sz]) (hv : v = .int .u64 m) : Src w1 w.heap.size a len cap ∧ Below w.heap.size w w1 := by
 have hbel2 : Below w.heap.size w w1 := hbel.trans ⟨e1, e2, e3, hsz, hk⟩
 refine ⟨⟨⟨hr.1, hr.2.1, fun i hi => ?_⟩, p, m, sz, by rw [hb, hC, hv], hp, hz0, hz1⟩, hbel2⟩
 obtain ⟨b, o, n, h1, h2, h3, h4⟩ := hr.2.2 i hi
 exact ⟨b, o, n, h1, h2, h3, (hbel2.cell (p := ⟨b, o + i, none⟩) h2).trans h4⟩
set_option maxRecDepth 100000 in
theorem yl6 (a : Option Addr) (len cap : Nat) (w : World) (hr : RowB w w.heap.size a len cap) :
  Calls Tryz.prog 30 #[.slice a len cap] w fun e w' => e = .returned (.pointer (some ⟨w.heap.size, 0, none⟩)) ∧ Src w' w.heap.size a len cap ∧ Below w.heap.size w w' := by
 have hl : (len : Int) ≤ 9223372036854775807 := by have h1 := hr.2.1; have h2 := hr.1; unfold maxLen at h1; omega
 have HR := hide hr
 clear hr
 go_enter Tryz.func30, Tryz.ntmps30
 go_wp2
 go_loopw [4] (fun i wr => ∃ (k : Nat) (m : Int), k ≤ 64 ∧ k ≤ len ∧ i = .int .i64 (k : Int) ∧ Hid (wr.heap[w.heap.size]? = some (.cells #[.slice a len cap, .int .i64 0, .int .u64 m, .int .i64 0] 92 (0, 0))) ∧ Below w.heap.size w wr) (fun i _ => 64 - (intOf i).toNat)
 case atStart => exact ⟨0, _, by omega, by omega, rfl, hide (heap_alloc_new w _), (Below.refl _ _).alloc (Nat.le_refl _) _⟩
 case round =>
  obtain ⟨k, m, hk, hkl, rfl, HB, hbel⟩ := hrel
  have c0 : wr.cell? ⟨w.heap.size, 0, none⟩ = some (.slice a len cap) := by rw [cell_of_row wr _ 0 _ _ (0, 0) (za HB)]; rfl
  have c2 : wr.cell? ⟨w.heap.size, 2, none⟩ = some (.int .u64 m) := by rw [cell_of_row wr _ 2 _ _ (0, 0) (za HB)]; rfl
  have c3 : wr.cell? ⟨w.heap.size, 3, none⟩ = some (.int .i64 0) := by rw [cell_of_row wr _ 3 _ _ (0, 0) (za HB)]; rfl
  have f2 : wr.frozen? ⟨w.heap.size, 2, none⟩ = false := Mem.zi8 (za HB)
  have f3 : wr.frozen? ⟨w.heap.size, 3, none⟩ = false := Mem.zi8 (za HB)
  by_cases hlt : k < len ∧ k < 64
  ·obtain ⟨b, o, n, rfl, hbS, hn, hc⟩ := (za HR).2.2 k hlt.1
   have hc1 : wr.cell? ⟨b, o + k, none⟩ = some (.int .u8 (n : Int)) := (hbel.cell (p := ⟨b, o + k, none⟩) hbS).trans hc
   have t1 : (k : Int) < (len : Int) := by omega
   have t2 : (k : Int) < 64 := by omega
   have t3 : (0 : Int) ≤ (k : Int) := by omega
   clear hc hlt
   go_wp2
   go_region
   go_wp2
   go_roundw
   case rel =>
    refine ⟨k + 1, _, by omega, by omega, by go_num, hide (heap_setCell_same _ _ 2 _ _ _ (za HB)), ?_⟩
    exact hbel.trans ⟨rfl, rfl, rfl, by simp [World.setCell], fun j hj => Below.heap_setCell _ _ _ _ (by show j ≠ w.heap.size; omega)⟩
   case measure => simp [intOf]; omega
  ·have HF : Hid (¬ (k < len ∧ k < 64)) := hlt
   by_cases h12 : 12 < len / 20
   ·have t4 : (12 : Int) < (len : Int) / 20 := by omega
    have hlt1 : k < len := by omega
    have hlt2 : ¬ (k : Int) < 64 := by omega
    have hlt3 : (k : Int) < (len : Int) := by omega
    clear hlt
    go_wp2
    go_ret
    exact ⟨rfl, fin (za HR) hbel (Nat.zero_le _) (by omega) (by omega) (by rw [size_set, size_set]; exact Nat.le_refl _) (fun j hj => by rw [Below.heap_setCell _ _ _ _ (by show j ≠ w.heap.size; omega), Below.heap_setCell _ _ _ _ (by show j ≠ w.heap.size; omega)]) rfl rfl rfl (heap_setCell_same _ _ 3 _ _ _ (heap_setCell_same _ _ 3 _ _ _ (za HB))) rfl rfl⟩
   ·have t4 : ¬ (12 : Int) < (len : Int) / 20 := by omega
    by_cases hlt1 : k < len
    ·have hlt2 : ¬ (k : Int) < 64 := by omega
     have hlt3 : (k : Int) < (len : Int) := by omega
     clear hlt
     go_wp2
     go_ret
     exact ⟨rfl, fin (za HR) hbel (Nat.zero_le _) (by omega) (by omega) (by rw [size_set]; exact Nat.le_refl _) (fun j hj => by rw [Below.heap_setCell _ _ _ _ (by show j ≠ w.heap.size; omega)]) rfl rfl rfl (heap_setCell_same _ _ 3 _ _ _ (za HB)) rfl rfl⟩
    ·have hlt3 : ¬ (k : Int) < (len : Int) := by omega
     clear hlt
     go_wp2
     go_ret
     exact ⟨rfl, fin (za HR) hbel (Nat.zero_le _) (by omega) (by omega) (by rw [size_set]; exact Nat.le_refl _) (fun j hj => by rw [Below.heap_setCell _ _ _ _ (by show j ≠ w.heap.size; omega)]) rfl rfl rfl (heap_setCell_same _ _ 3 _ _ _ (za HB)) rfl rfl⟩
end WSrc
end Go.Proofs.YtfdbokipgofcdaaGreatDoor

namespace Go.Proofs.YtfdbokipgofcdaaGreatDoor
open Go.RowKit
namespace WSrc
structure zr0 (W : World) (B : Nat) (va : Option Addr) (Is : List Pl.It) : Prop where
 items : Mem.za6 W va Is
 each : ∀ x ∈ Is, zi0 W B x.t.a x.t.cap x.t.L ∧ x.t.L.length ≤ 64 ∧ Pl.zr7 x.t.L
 blk : ∀ g o, va = some ⟨g, o, none⟩ → B ≤ g ∧ g < W.heap.size
theorem Ik.nest {W : World} {B S len cap vc : Nat} {a va : Option Addr} {Is : List Pl.It} (h : Ik W B S a len cap (.slice va Is.length vc) Is) : zr0 W B va Is := by
 refine ⟨fun i x hi => ?_, fun x hx => ⟨(h.each x hx).tree, (h.each x hx).len, (h.each x hx).ok⟩, fun g o e => ?_⟩
 ·have hlt := (List.getElem?_eq_some_iff.1 hi).1
  rcases h.own.2 with ⟨_, h0⟩ | ⟨g, c', cur, e, hb, hg, -⟩
  ·omega
  ·injection e with e1 e2 e3
   subst e1
   have c0 := World.ownsRow.cells h.own (g := g) rfl (i * 2) _ (Pl.zt0 Is i x hi).1
   have c1 := World.ownsRow.cells h.own (g := g) rfl (i * 2 + 1) _ (Pl.zt0 Is i x hi).2
   rw [Mem.add_lit] at c0 c1
   refine ⟨⟨g, 0, rfl, (Array.getElem?_eq_some_iff.1 hg).1, ?_, ?_⟩, (h.each x (List.mem_of_getElem? hi)).tree.1⟩
   ·rw [Nat.zero_add]; exact c0
   ·rw [Nat.zero_add]; exact c1
 ·subst e
  rcases h.own.2 with ⟨e, _⟩ | ⟨g', c', cur, e, hb, hg, -⟩
  ·cases e
  ·injection e with e1 e2 e3
   injection e1 with e1
   injection e1 with e4 e5
   subst e4
   exact ⟨hb, (Array.getElem?_eq_some_iff.1 hg).1⟩
theorem zr0.call {W W' : World} {B : Nat} {va : Option Addr} {Is : List Pl.It} (h : zr0 W B va Is) (b : Below W.heap.size W W') : zr0 W' B va Is :=
 ⟨Mem.zc1 h.items b, fun x hx => ⟨(h.each x hx).1.grown (below_grown b none) (fun q hq => by cases hq), (h.each x hx).2⟩, fun g o e => ⟨(h.blk g o e).1, Nat.lt_of_lt_of_le (h.blk g o e).2 b.size⟩⟩
theorem zr0.mono {W : World} {B B' : Nat} {va : Option Addr} {Is : List Pl.It} (h : zr0 W B va Is) (hb : B' ≤ B) : zr0 W B' va Is :=
 ⟨h.items, fun x hx => ⟨(h.each x hx).1.mono hb, (h.each x hx).2⟩, fun g o e => ⟨Nat.le_trans hb (h.blk g o e).1, (h.blk g o e).2⟩⟩
theorem zr0.hok {W : World} {B : Nat} {va : Option Addr} {Is : List Pl.It} (h : zr0 W B va Is) : ∀ x ∈ Is, x.t.L.length ≤ 1048576 ∧ ∀ n ∈ x.t.L, n.path.size ≤ 1048576 ∧ n.data.size ≤ 1048576 := fun x hx => by
 obtain ⟨-, h1, h2⟩ := h.each x hx
 exact ⟨by omega, fun n hn => by have := h2 n hn; unfold Pl.zv8 at this; omega⟩
end WSrc
end Go.Proofs.YtfdbokipgofcdaaGreatDoor

