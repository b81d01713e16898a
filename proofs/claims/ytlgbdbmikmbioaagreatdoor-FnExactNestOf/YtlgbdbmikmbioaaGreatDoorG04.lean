/- Several texts of one claim in one file: WLawE, MemOwnN, MemBlk, MemTrees, MemItems, MemFar. -/
import Derived.Test.YtlgbdbmikmbioaaGreatDoorG03
import Derived.Deep.QuietTactic
import Derived.BigQuiet
import Derived.Deep.RegionHeld3
import Derived.Laws.AppendOwn
import Derived.Test.YtlgbdbmikmbioaaGreatDoorG00
import Derived.Below
namespace Go.Proofs.YtlgbdbmikmbioaaGreatDoor
open Go.RowKit
namespace WLaw
set_option maxRecDepth 100000 in
theorem zx2 (a : Option Addr) (cap : Nat) (L : List Pl.Nd) (w : World) (hl : L.length ≤ 1048576) (hv : Mem.za3 w a L) :
  Calls Tryz.prog 56 #[.agg #[.slice a L.length cap]] w fun e w' => ∃ g, e = .returned (.agg #[.slice (some ⟨g, 0, none⟩) L.length L.length]) ∧ w.heap.size ≤ g ∧ (∃ cur, w'.heap[g]? = some (.cells cur 134 (0, 0)) ∧ cur.size = L.length * 5) ∧ Mem.za3 w' (some ⟨g, 0, none⟩) L ∧ Below w.heap.size w w' := by
 have HZ := hide (fun W (b : Below w.heap.size w W) => toNodeS_row a cap L W hl (Mem.za4 hv b))
 clear hv
 have b0 : ∀ o1 o2 o3, Below w.heap.size w (((w.alloc o1).alloc o2).alloc o3) := fun o1 o2 o3 => (((Below.refl _ _).alloc (Nat.le_refl _) o1).alloc (by simp) o2).alloc (by simp; omega) o3
 have HB := hide b0
 clear b0
 go_enter Tryz.func56, Tryz.ntmps56
 go_wp2_with fail
 refine (za HZ _ (za HB _ _ _)).mono ?_
 rintro e w1 ⟨rfl, ⟨cur, hrow, hcur⟩, h1, b1⟩
 have hs : (((w.alloc (.cells #[.slice a L.length cap] 57)).alloc (.cells #[.slice none 0 0] 69)).alloc (.cells #[.slice none 0 0] 69)).heap.size = w.heap.size + 1 + 1 + 1 := by simp
 have r1 : w1.heap[w.heap.size + 1]? = some (.cells #[.slice none 0 0] 69 (0, 0)) := (b1.block _ (by rw [hs]; omega)).trans (Mem.zp7 w _ _ _)
 have r2 : w1.heap[w.heap.size + 1 + 1]? = some (.cells #[.slice none 0 0] 69 (0, 0)) := (b1.block _ (by rw [hs]; omega)).trans (Mem.zm0 w _ _ _)
 have c1 : w1.cell? ⟨w.heap.size + 1, 0, none⟩ = some (.slice none 0 0) := by rw [cell_of_row w1 _ 0 _ _ (0, 0) r1]; rfl
 have c2 : w1.cell? ⟨w.heap.size + 1 + 1, 0, none⟩ = some (.slice none 0 0) := by rw [cell_of_row w1 _ 0 _ _ (0, 0) r2]; rfl
 have f1 : w1.frozen? ⟨w.heap.size + 1, 0, none⟩ = false := Mem.za6 r1
 have f2 : w1.frozen? ⟨w.heap.size + 1 + 1, 0, none⟩ = false := Mem.za6 r2
 have bb := hide ((za HB _ _ _).trans (b1.mono (za HB _ _ _).size))
 have H1 := hide h1
 have HR := hide hrow
 have HCU := hide hcur
 have HSZ := hide hs
 generalize (((w.alloc (.cells #[.slice a L.length cap] 57)).alloc (.cells #[.slice none 0 0] 69)).alloc (.cells #[.slice none 0 0] 69)).heap.size = g at H1 HSZ HR ⊢
 clear HZ b1 h1 hs r1 r2 hrow hcur
 go_wp2
 refine bodyPost_ret (v := .agg #[.slice (some ⟨g, 0, none⟩) L.length L.length]) (by simp [results, Tryz.results56, go_sem, c1]) rfl ⟨g, rfl, by have := za HSZ; omega, ⟨cur, ?_, za HCU⟩, ?_, ?_⟩
 ·have hg := za HSZ
  exact (heap_setCell_other _ _ _ _ (by show g ≠ w.heap.size + 1; omega)).trans ((heap_setCell_other _ _ _ _ (by show g ≠ w.heap.size + 1 + 1; omega)).trans (za HR))
 ·intro i n hi
  obtain ⟨b, o, e1, h2, q0, q1, q2, q3, q4⟩ := za H1 i n hi
  cases e1
  have hg := za HSZ
  have hc : ∀ j, ((w1.setCell ⟨w.heap.size + 1 + 1, 0, none⟩ (.slice (some ⟨g, 0, none⟩) L.length L.length)).setCell ⟨w.heap.size + 1, 0, none⟩ (.slice (some ⟨g, 0, none⟩) L.length L.length)).cell? ⟨g, j, none⟩ = w1.cell? ⟨g, j, none⟩ := fun j => by
   rw [World.cell?_setCell_far _ _ _ _ (by show w.heap.size + 1 ≠ g; omega), World.cell?_setCell_far _ _ _ _ (by show w.heap.size + 1 + 1 ≠ g; omega)]
  refine ⟨g, 0, rfl, by simpa [World.setCell] using h2, ?_, ?_, ?_, ?_, ?_⟩
  ·rw [hc]; exact q0
  ·rw [hc]; exact q1
  ·rw [hc]; exact q2
  ·rw [hc]; exact q3
  ·rw [hc]; exact q4
 ·exact ((za bb).setCell (by show w.heap.size ≤ w.heap.size + 1 + 1; omega) _).setCell (by show w.heap.size ≤ w.heap.size + 1; omega) _
set_option maxRecDepth 100000 in
theorem eqNode_any (n : Pl.Nd) (w : World) :
  Calls Tryz.prog 134 #[n.val, n.val] w fun e w' => e = .returned (.bool true) ∧ Below w.heap.size w w' := by
 obtain ⟨p, k, d, t, m⟩ := n
 simp only [Pl.Nd.val]
 go_enter Tryz.func134, Tryz.ntmps134
 go_wp2
 go_ret
 exact ⟨rfl, ((Below.refl _ _).alloc (Nat.le_refl _) _).alloc (by simp) _⟩
set_option maxRecDepth 100000 in
set_option maxHeartbeats 400000 in
theorem eqNodeS_any (a b : Option Addr) (c1 c2 : Nat) (L : List Pl.Nd) (w : World) (hl : L.length ≤ 1048576) (hv : Mem.za3 w a L) (hu : Mem.za3 w b L) :
  Calls Tryz.prog 105 #[.slice a L.length c1, .slice b L.length c2] w fun e w' => e = .returned (.bool true) ∧ Below w.heap.size w w' := by
 have HV := hide hv
 have HU := hide hu
 clear hv hu
 go_enter Tryz.func105, Tryz.ntmps105
 go_wp2
 go_loopw [5] (fun i wr => ∃ k : Nat, k ≤ L.length ∧ i = .int .i64 (k : Int) ∧ Below w.heap.size w wr) (fun i _ => L.length - (intOf i).toNat)
 case atStart => exact ⟨0, Nat.zero_le _, rfl, Below.refl _ _⟩
 case round =>
  obtain ⟨k, hk, rfl, hbel⟩ := hrel
  by_cases hlt : k < L.length
  ·obtain ⟨n, hn⟩ : ∃ n, L[k]? = some n := ⟨_, List.getElem?_eq_getElem hlt⟩
   obtain ⟨g, o, rfl, hg, q0, q1, q2, q3, q4⟩ := (za HV) k n hn
   obtain ⟨g2, o2, rfl, hg2, p0, p1, p2, p3, p4⟩ := (za HU) k n hn
   have c0 := (hbel.cell (p := ⟨g, _, none⟩) hg).trans q0
   have c1 := (hbel.cell (p := ⟨g, _, none⟩) hg).trans q1
   have c2 := (hbel.cell (p := ⟨g, _, none⟩) hg).trans q2
   have c3 := (hbel.cell (p := ⟨g, _, none⟩) hg).trans q3
   have c4 := (hbel.cell (p := ⟨g, _, none⟩) hg).trans q4
   have d0 := (hbel.cell (p := ⟨g2, _, none⟩) hg2).trans p0
   have d1 := (hbel.cell (p := ⟨g2, _, none⟩) hg2).trans p1
   have d2 := (hbel.cell (p := ⟨g2, _, none⟩) hg2).trans p2
   have d3 := (hbel.cell (p := ⟨g2, _, none⟩) hg2).trans p3
   have d4 := (hbel.cell (p := ⟨g2, _, none⟩) hg2).trans p4
   have hz := hide (fun W => eqNode_any n W)
   have MK : Hid (∀ W', Below w.heap.size w W' → (Below w.heap.size w W' ∧ W'.cell? ⟨g, o + k * 5, none⟩ = some (.string n.path) ∧ W'.cell? ⟨g, o + k * 5 + 1, none⟩ = some (.int .i64 n.kind) ∧ W'.cell? ⟨g, o + k * 5 + 2, none⟩ = some (.string n.data) ∧ W'.cell? ⟨g, o + k * 5 + 3, none⟩ = some (.int .i64 n.time) ∧ W'.cell? ⟨g, o + k * 5 + 4, none⟩ = some (.int .i64 n.mark) ∧ W'.cell? ⟨g2, o2 + k * 5, none⟩ = some (.string n.path) ∧ W'.cell? ⟨g2, o2 + k * 5 + 1, none⟩ = some (.int .i64 n.kind) ∧ W'.cell? ⟨g2, o2 + k * 5 + 2, none⟩ = some (.string n.data) ∧ W'.cell? ⟨g2, o2 + k * 5 + 3, none⟩ = some (.int .i64 n.time) ∧ W'.cell? ⟨g2, o2 + k * 5 + 4, none⟩ = some (.int .i64 n.mark))) := fun W' hb => ⟨hb, (hb.cell (p := ⟨g, _, none⟩) hg).trans q0, (hb.cell (p := ⟨g, _, none⟩) hg).trans q1, (hb.cell (p := ⟨g, _, none⟩) hg).trans q2, (hb.cell (p := ⟨g, _, none⟩) hg).trans q3, (hb.cell (p := ⟨g, _, none⟩) hg).trans q4, (hb.cell (p := ⟨g2, _, none⟩) hg2).trans p0, (hb.cell (p := ⟨g2, _, none⟩) hg2).trans p1, (hb.cell (p := ⟨g2, _, none⟩) hg2).trans p2, (hb.cell (p := ⟨g2, _, none⟩) hg2).trans p3, (hb.cell (p := ⟨g2, _, none⟩) hg2).trans p4⟩
   have u1 : (k : Int) < (L.length : Int) := by omega
   have u3 : (0 : Int) ≤ (k : Int) := by omega
   have hbd : Below w.heap.size w wr.drew := ⟨hbel.os, hbel.tape, hbel.output, hbel.size, hbel.block⟩
   clear q0 q1 q2 q3 q4 p0 p1 p2 p3 p4 hn
   simp only [Pl.Nd.val] at hz
   go_wp2_with fail
   go_region_held3 (fun W' => Below w.heap.size w W' ∧ W'.cell? ⟨g, o + k * 5, none⟩ = some (.string n.path) ∧ W'.cell? ⟨g, o + k * 5 + 1, none⟩ = some (.int .i64 n.kind) ∧ W'.cell? ⟨g, o + k * 5 + 2, none⟩ = some (.string n.data) ∧ W'.cell? ⟨g, o + k * 5 + 3, none⟩ = some (.int .i64 n.time) ∧ W'.cell? ⟨g, o + k * 5 + 4, none⟩ = some (.int .i64 n.mark) ∧ W'.cell? ⟨g2, o2 + k * 5, none⟩ = some (.string n.path) ∧ W'.cell? ⟨g2, o2 + k * 5 + 1, none⟩ = some (.int .i64 n.kind) ∧ W'.cell? ⟨g2, o2 + k * 5 + 2, none⟩ = some (.string n.data) ∧ W'.cell? ⟨g2, o2 + k * 5 + 3, none⟩ = some (.int .i64 n.time) ∧ W'.cell? ⟨g2, o2 + k * 5 + 4, none⟩ = some (.int .i64 n.mark)) (first | exact za MK _ hbd | exact za MK _ (hbd.trans (bX.mono hbd.size))) (first | (go_at_call 134; refine (za hz _).mono ?_; rintro e wX ⟨rfl, bX⟩))
   have hb2 := hbd.trans (bX.mono hbd.size)
   clear hbel hbd bX MK
   go_wp2
   go_roundw
   case rel => exact ⟨k + 1, by omega, by go_num, hb2⟩
   case measure => simp [intOf]; omega
  ·have u1 : ¬ (k : Int) < (L.length : Int) := by omega
   go_wp2
   go_ret
   exact ⟨rfl, hbel⟩
set_option maxRecDepth 100000 in
theorem eqTree_any (a b : Option Addr) (c1 c2 : Nat) (L : List Pl.Nd) (w : World) (hl : L.length ≤ 1048576) (hv : Mem.za3 w a L) (hu : Mem.za3 w b L) :
  Calls Tryz.prog 67 #[.agg #[.slice a L.length c1], .agg #[.slice b L.length c2]] w fun e w' => e = .returned (.bool true) ∧ Below w.heap.size w w' := by
 have b0 : ∀ o1 o2, Below w.heap.size w ((w.alloc o1).alloc o2) := fun o1 o2 => ((Below.refl _ _).alloc (Nat.le_refl _) o1).alloc (by simp) o2
 have HB := hide b0
 have HZ := hide (fun W (b' : Below w.heap.size w W) => eqNodeS_any a b c1 c2 L W hl (Mem.za4 hv b') (Mem.za4 hu b'))
 clear hv hu b0
 go_enter Tryz.func67, Tryz.ntmps67
 go_wp2_with fail
 refine (za HZ _ (za HB _ _)).mono ?_
 rintro e w1 ⟨rfl, b1⟩
 have bb := (za HB _ _).trans (b1.mono (za HB _ _).size)
 clear HZ b1
 go_wp2
 go_ret
 exact ⟨rfl, bb⟩
end WLaw
end Go.Proofs.YtlgbdbmikmbioaaGreatDoor

namespace Go.Proofs.YtlgbdbmikmbioaaGreatDoor
open Go.RowKit
namespace Pl
def Nd.cs (n : Nd) : List Value := [.string n.path, .int .i64 n.kind, .string n.data, .int .i64 n.time, .int .i64 n.mark]
def zb7 (L : List Nd) : List Value := L.flatMap Nd.cs
theorem zi4 (L : List Nd) : (zb7 L).length = L.length * 5 := by
 induction L with
 | nil => rfl
 | cons n L ih => rw [zb7, List.flatMap_cons, List.length_append, ← zb7, ih, List.length_cons]; simp [Nd.cs]; omega
theorem cellsN_cons (n : Nd) (L : List Nd) : zb7 (n :: L) = n.cs ++ zb7 L := by simp [zb7]
theorem zw4 (L M : List Nd) : zb7 (L ++ M) = zb7 L ++ zb7 M := by simp [zb7]
theorem zr8 (L : List Nd) (i : Nat) (n : Nd) (h : L[i]? = some n) (j : Nat) (hj : j < 5) : (zb7 L)[i * 5 + j]? = n.cs[j]? := by
 induction L generalizing i with
 | nil => simp at h
 | cons m L ih =>
  rw [cellsN_cons]
  have hl : m.cs.length = 5 := rfl
  match i, h with
  | 0, h =>
   simp at h; subst h
   rw [List.getElem?_append_left (by rw [hl]; omega)]
   simp
  | i + 1, h =>
   rw [List.getElem?_append_right (by rw [hl]; omega), hl, show (i + 1) * 5 + j - 5 = i * 5 + j by omega]
   exact ih i (by simpa using h)
end Pl
namespace Mem
def ownN (w : World) (B : Nat) (v : Value) (L : List Pl.Nd) : Prop := w.ownsRow B 134 5 v L.length (Pl.zb7 L)
theorem ownN_is {w : World} {B : Nat} {v : Value} {L : List Pl.Nd} (h : ownN w B v L) : ∃ a cap, v = .slice a L.length cap ∧ za3 w a L := by
 rcases h.2 with ⟨rfl, h0⟩ | ⟨g, cap, cur, rfl, hb, hg, hc, hm, hsz, ht⟩
 ·exact ⟨none, 0, by rw [h0], fun i n hi => by rw [List.length_eq_zero_iff.1 h0] at hi; simp at hi⟩
 ·refine ⟨some ⟨g, 0, none⟩, cap, rfl, fun i n hi => ?_⟩
  have hlt : i < L.length := (List.getElem?_eq_some_iff.1 hi).1
  have c : ∀ j, j < 5 → w.cell? ⟨g, 0 + i * 5 + j, none⟩ = n.cs[j]? := fun j hj => by
   rw [cell_of_row w g _ cur _ (0, 0) hg, Nat.zero_add, ← Pl.zr8 L i n hi j hj, ← ht, List.getElem?_take_of_lt (by omega), Array.getElem?_toList]
  exact ⟨g, 0, rfl, (Array.getElem?_eq_some_iff.1 hg).1, c 0 (by omega), c 1 (by omega), c 2 (by omega), c 3 (by omega), c 4 (by omega)⟩
theorem cs_one (n : Pl.Nd) : ∀ u ∈ n.cs, u.oneCell' = true := by
 intro u hu
 simp only [Pl.Nd.cs, List.mem_cons, List.not_mem_nil, or_false] at hu
 rcases hu with rfl | rfl | rfl | rfl | rfl <;> rfl
theorem cs_new (w : World) (n : Pl.Nd) (T : TypeId) : ∀ j u, n.cs[j]? = some u → (w.alloc (.cells n.cs.toArray T)).cell? ((⟨w.heap.size, 0, none⟩ : Addr).add j) = some u := by
 intro j u hj
 rw [Mem.add_lit]
 exact (Mem.zc3 w n.cs T).2 j u hj
theorem ownN_snoc {w : World} {B : Nat} {v : Value} {L : List Pl.Nd} {n : Pl.Nd} (h : w.ownsRow B 134 5 v (L.length + 1) (Pl.zb7 L ++ n.cs)) : ownN w B v (L ++ [n]) := by
 unfold ownN
 rw [Pl.zw4, List.length_append]
 have e : Pl.zb7 [n] = n.cs := by simp [Pl.zb7]
 rw [e]; exact h
theorem zl7 {w w' : World} {B : Nat} {v : Value} {L : List Pl.Nd} (h : ownN w B v L) (b : Below w.heap.size w w') : ownN w' B v L := by
 refine ⟨h.1, ?_⟩
 rcases h.2 with h0 | ⟨g, cap, cur, hv, hb, hg, rest⟩
 ·exact .inl h0
 ·exact .inr ⟨g, cap, cur, hv, hb, (b.block _ (Array.getElem?_eq_some_iff.1 hg).1).trans hg, rest⟩
theorem zm3 {w : World} {B B' : Nat} {v : Value} {L : List Pl.Nd} (h : ownN w B v L) (hb : B' ≤ B) : ownN w B' v L := own_mono h hb
end Mem
end Go.Proofs.YtlgbdbmikmbioaaGreatDoor

namespace Go.Proofs.YtlgbdbmikmbioaaGreatDoor
open Go.RowKit
namespace Mem
def Blk (w : World) (X : Nat) (cs : Array Value) (T : TypeId) : Prop := w.heap[X]? = some (.cells cs T (0, 0))
theorem Blk.lt {w : World} {X : Nat} {cs : Array Value} {T : TypeId} (h : Blk w X cs T) : X < w.heap.size := (Array.getElem?_eq_some_iff.1 h).1
theorem Blk.cell {w : World} {X : Nat} {cs : Array Value} {T : TypeId} (h : Blk w X cs T) (k : Nat) : w.cell? ⟨X, k, none⟩ = cs[k]? := cell_of_row w X k cs T (0, 0) h
theorem Blk.fr {w : World} {X : Nat} {cs : Array Value} {T : TypeId} (h : Blk w X cs T) (k : Nat) : w.frozen? ⟨X, k, none⟩ = false := za6 h
theorem Blk.call {w w' : World} {X : Nat} {cs : Array Value} {T : TypeId} (h : Blk w X cs T) (b : Below w.heap.size w w') : Blk w' X cs T := (b.block _ h.lt).trans h
theorem Blk.below {w w' : World} {X B : Nat} {cs : Array Value} {T : TypeId} (h : Blk w X cs T) (b : Below B w w') (hX : X < B) : Blk w' X cs T := (b.block _ hX).trans h
theorem Blk.alloc {w : World} {X : Nat} {cs : Array Value} {T : TypeId} (h : Blk w X cs T) (o : Obj) : Blk (w.alloc o) X cs T := h.call ((Below.refl _ _).alloc (Nat.le_refl _) o)
theorem Blk.new (w : World) (cs : Array Value) (T : TypeId) : Blk (w.alloc (.cells cs T)) w.heap.size cs T := heap_alloc_new w _
theorem Blk.grown {w w' : World} {X : Nat} {cs : Array Value} {T : TypeId} {r : Option Nat} (h : Blk w X cs T) (g : w.grownBy w' r) (hr : some X ≠ r) : Blk w' X cs T := (g.block _ h.lt hr).trans h
theorem Blk.put {w : World} {X : Nat} {cs : Array Value} {T : TypeId} (h : Blk w X cs T) (k : Nat) (v : Value) : Blk (w.setCell ⟨X, k, none⟩ v) X (cs.setIfInBounds k v) T := heap_setCell_same w X k cs T v h
theorem Blk.far {w : World} {X : Nat} {cs : Array Value} {T : TypeId} (h : Blk w X cs T) (a : Addr) (v : Value) (ha : X ≠ a.block) : Blk (w.setCell a v) X cs T := (heap_setCell_other w a X v ha).trans h
theorem ownN_set {w : World} {B : Nat} {v : Value} {L : List Pl.Nd} (h : ownN w B v L) (a : Addr) (u : Value) (ha : a.block < B) : ownN (w.setCell a u) B v L := by
 refine ⟨h.1, ?_⟩
 rcases h.2 with h0 | ⟨g, cap, cur, hv, hb, hg, rest⟩
 ·exact .inl h0
 ·exact .inr ⟨g, cap, cur, hv, hb, (heap_setCell_other w a g u (by omega)).trans hg, rest⟩
theorem ownN_far {w : World} {B : Nat} {v : Value} {L : List Pl.Nd} (h : ownN w B v L) (a : Addr) (u : Value) (ha : ∀ g, v.ownBlock = some g → a.block ≠ g) : ownN (w.setCell a u) B v L := by
 refine ⟨h.1, ?_⟩
 rcases h.2 with h0 | ⟨g, cap, cur, rfl, hb, hg, rest⟩
 ·exact .inl h0
 ·exact .inr ⟨g, cap, cur, rfl, hb, (heap_setCell_other w a g u (fun e => ha g rfl e.symm)).trans hg, rest⟩
theorem zq9 {w : World} {B : Nat} {v : Value} {L : List Pl.Nd} (h : ownN w B v L) (o : Obj) : ownN (w.alloc o) B v L := zl7 h ((Below.refl _ _).alloc (Nat.le_refl _) o)
theorem zi0 {w : World} {B : Nat} {v : Value} {L : List Pl.Nd} (h : ownN w B v L) : ∀ g, v.ownBlock = some g → B ≤ g ∧ g < w.heap.size := fun g hg => World.ownsRow.lt h g hg
theorem ownN_nodes {w : World} {B n cap : Nat} {a : Option Addr} {L : List Pl.Nd} (h : ownN w B (.slice a n cap) L) : n = L.length ∧ za3 w a L := by
 obtain ⟨a', cap', e, hn⟩ := ownN_is h
 injection e with e1 e2 e3
 subst e1 e2 e3
 exact ⟨rfl, hn⟩
theorem nodes_grown {w w' : World} {g o : Nat} {r : Option Nat} {L : List Pl.Nd} (h : za3 w (some ⟨g, o, none⟩) L) (hg : w.grownBy w' r) (hr : some g ≠ r) : za3 w' (some ⟨g, o, none⟩) L := fun i n hi => by
 obtain ⟨g', o', h1, h2, h3, h4, h5, h6, h7⟩ := h i n hi
 cases h1
 exact ⟨g, o, rfl, Nat.lt_of_lt_of_le h2 hg.size, hg.cell h3 hr, hg.cell h4 hr, hg.cell h5 hr, hg.cell h6 hr, hg.cell h7 hr⟩
theorem zx5 {w w' : World} {B : Nat} {v : Value} {r : Option Nat} {L : List Pl.Nd} (h : ownN w B v L) (hg : w.grownBy w' r) (hr : ∀ g, v.ownBlock = some g → some g ≠ r) : ownN w' B v L := by
 refine ⟨h.1, ?_⟩
 rcases h.2 with h0 | ⟨g, cap, cur, rfl, hb, hh, rest⟩
 ·exact .inl h0
 ·exact .inr ⟨g, cap, cur, rfl, hb, (hg.block g (Array.getElem?_eq_some_iff.1 hh).1 (hr g rfl)).trans hh, rest⟩
theorem zl0 {w w' : World} (b : Below w.heap.size w w') (r : Option Nat) : w.grownBy w' r := ⟨b.os, b.tape, b.output, b.size, fun j hj _ => b.block j hj⟩
end Mem
end Go.Proofs.YtlgbdbmikmbioaaGreatDoor

namespace Go.Proofs.YtlgbdbmikmbioaaGreatDoor
open Go.RowKit
namespace Pl
structure Tr where
 a : Option Addr
 cap : Nat
 L : List Nd
def Tr.val (t : Tr) : Value := .slice t.a t.L.length t.cap
end Pl
namespace Mem
end Mem
end Go.Proofs.YtlgbdbmikmbioaaGreatDoor

namespace Go.Proofs.YtlgbdbmikmbioaaGreatDoor
open Go.RowKit
namespace Pl
structure It where
 m : Int
 t : Tr
def It.r (x : It) : Int × List Nd := (x.m, x.t.L)
end Pl
namespace Mem
def za5 (w : World) (a : Option Addr) (Is : List Pl.It) : Prop :=
 ∀ (i : Nat) x, Is[i]? = some x → (∃ b o, a = some ⟨b, o, none⟩ ∧ b < w.heap.size ∧ w.cell? ⟨b, o + i * 2, none⟩ = some (.int .i64 x.m) ∧ w.cell? ⟨b, o + i * 2 + 1, none⟩ = some x.t.val) ∧ za3 w x.t.a x.t.L
theorem za8 {w w' : World} {a : Option Addr} {Is : List Pl.It} (h : za5 w a Is) (b : Below w.heap.size w w') : za5 w' a Is := fun i t hi => by
 obtain ⟨⟨g, o, h1, h2, h3, h5⟩, h4⟩ := h i t hi
 exact ⟨⟨g, o, h1, Nat.lt_of_lt_of_le h2 b.size, (b.cell (p := ⟨g, _, none⟩) h2).trans h3, (b.cell (p := ⟨g, _, none⟩) h2).trans h5⟩, za4 h4 b⟩
theorem zu1 (w : World) (a : Option Addr) : za5 w a [] := fun i n hi => by simp at hi
theorem items_drop {w : World} {b o : Nat} {Is : List Pl.It} (k : Nat) (h : za5 w (some ⟨b, o, none⟩) Is) : za5 w (some ⟨b, o + k * 2, none⟩) (Is.drop k) := fun i t hi => by
 rw [List.getElem?_drop] at hi
 obtain ⟨⟨g, o', h1, h2, h3, h5⟩, h4⟩ := h _ t hi
 cases h1
 refine ⟨⟨b, _, rfl, h2, ?_, ?_⟩, h4⟩
 ·rw [show o + k * 2 + i * 2 = o + (k + i) * 2 by omega]; exact h3
 ·rw [show o + k * 2 + i * 2 + 1 = o + (k + i) * 2 + 1 by omega]; exact h5
def shifted (a a' : Option Addr) (k : Nat) (Is : List Pl.It) : Prop := Is.drop k = [] ∨ ∃ b o, a = some ⟨b, o, none⟩ ∧ a' = some ⟨b, o + k * 2, none⟩
theorem items_shift {w : World} {a a' : Option Addr} {k : Nat} {Is : List Pl.It} (h : za5 w a Is) (hs : shifted a a' k Is) : za5 w a' (Is.drop k) := by
 rcases hs with hs | ⟨b, o, rfl, rfl⟩
 ·rw [hs]; exact zu1 _ _
 ·exact items_drop k h
theorem shifted_trans {a a' a'' : Option Addr} {k j : Nat} {Is : List Pl.It} (h : shifted a a' k Is) (h' : shifted a' a'' j (Is.drop k)) : shifted a a'' (k + j) Is := by
 rcases h' with h' | ⟨b, o, e1, e2⟩
 ·rw [List.drop_drop] at h'; exact .inl h'
 ·rcases h with h | ⟨b1, o1, e3, e4⟩
  ·left; rw [← List.drop_drop, h, List.drop_nil]
  ·rw [e4] at e1
   cases e1
   exact .inr ⟨_, o1, e3, by rw [e2]; congr 2; omega⟩
end Mem
end Go.Proofs.YtlgbdbmikmbioaaGreatDoor

namespace Go.Proofs.YtlgbdbmikmbioaaGreatDoor
open Go.RowKit
namespace Mem
theorem zc1 {w : World} {g o : Nat} {L : List Pl.Nd} (h : za3 w (some ⟨g, o, none⟩) L) (p : Addr) (v : Value) (hp : p.block ≠ g) : za3 (w.setCell p v) (some ⟨g, o, none⟩) L := fun i n hi => by
 obtain ⟨g', o', h1, h2, h3, h4, h5, h6, h7⟩ := h i n hi
 cases h1
 refine ⟨g, o, rfl, by simpa using h2, ?_, ?_, ?_, ?_, ?_⟩ <;> (rw [World.cell?_setCell_far _ _ _ _ hp]; assumption)
end Mem
end Go.Proofs.YtlgbdbmikmbioaaGreatDoor

