/- Several texts of one claim in one file: WTreeR, WPutR, MemOwnN, MemBlk, WUnder1S, WPutS. -/
import Derived.Test.YtioildojmckepaaGreatDoorWTreeS
import Derived.Test.YtioildojmckepaaGreatDoorG01
import Derived.Below
import Derived.Deep.RegionHeld3
import Derived.Test.YtioildojmckepaaGreatDoorProg
import Derived.WalkSpells
import Derived.Lib.OthersKept
import Derived.Laws.RangeAny
import Derived.Deep.Draws
import Derived.Deep.QuietTactic
import Derived.BigQuiet
import Derived.Test.YtioildojmckepaaGreatDoorG04
import Derived.Laws.AppendOwn
namespace Go.Proofs.YtioildojmckepaaGreatDoor
open Go.RowKit
namespace zl7
theorem zt0 (a : Option Addr) (cap : Nat) (L : List Pl.Nd) (w : World) (hl : L.length ≤ 1048576) (hv : Mem.zb5 w a L) (hok : ∀ n ∈ L, n.path.size ≤ 1048576 ∧ n.data.size ≤ 1048576) :
  Calls Tryz.prog 72 #[.agg #[.slice a L.length cap]] w fun e w' => e = .returned (.bool (Pl.zb1 L)) ∧ Below w.heap.size w w' := by
 have h := ze6 a cap L w hl hv hok
 rw [Pl.tree_same] at h
 exact h
end zl7
end Go.Proofs.YtioildojmckepaaGreatDoor

namespace Go.Proofs.YtioildojmckepaaGreatDoor
open Go.RowKit
namespace WPutB
theorem ya4 {L : List Pl.Nd} (h : Pl.zb1 L = true) : L.length ≤ 40 ∧ ∀ m ∈ L, m.path.size ≤ 200 := by
 simp only [Pl.zb1, Bool.and_eq_true, decide_eq_true_eq] at h
 exact ⟨h.1, fun m hm => Pl.zk7 (Pl.zf9 (Pl.goI_all L _ _ h.2 m hm)).1⟩
end WPutB
end Go.Proofs.YtioildojmckepaaGreatDoor

namespace Go.Proofs.YtioildojmckepaaGreatDoor
open Go.RowKit
namespace Pl
def Nd.cs (n : Nd) : List Value := [.string n.path, .int .i64 n.kind, .string n.data, .int .i64 n.time, .int .i64 n.mark]
def zb6 (L : List Nd) : List Value := L.flatMap Nd.cs
theorem zn6 (L : List Nd) : (zb6 L).length = L.length * 5 := by
 induction L with
 | nil => rfl
 | cons n L ih => rw [zb6, List.flatMap_cons, List.length_append, ← zb6, ih, List.length_cons]; simp [Nd.cs]; omega
theorem cellsN_cons (n : Nd) (L : List Nd) : zb6 (n :: L) = n.cs ++ zb6 L := by simp [zb6]
theorem yd1 (L M : List Nd) : zb6 (L ++ M) = zb6 L ++ zb6 M := by simp [zb6]
theorem yf0 (L : List Nd) (i : Nat) (n : Nd) (h : L[i]? = some n) (j : Nat) (hj : j < 5) : (zb6 L)[i * 5 + j]? = n.cs[j]? := by
 induction L generalizing i with
 | nil => simp at h
 | cons m L ih =>
  rw [cellsN_cons]
  have hl : m.cs.length = 5 := rfl
  match i, h with
  | 0, h =>
   simp at h; subst h
   rw [List.getElem?_append_left (by rw [hl]; omega)]
   simp
  | i + 1, h =>
   rw [List.getElem?_append_right (by rw [hl]; omega), hl, show (i + 1) * 5 + j - 5 = i * 5 + j by omega]
   exact ih i (by simpa using h)
end Pl
namespace Mem
def ownN (w : World) (B : Nat) (v : Value) (L : List Pl.Nd) : Prop := w.ownsRow B 88 5 v L.length (Pl.zb6 L)
theorem zc7 (w : World) (B : Nat) : ownN w B (.slice none 0 0) [] := ⟨rfl, .inl ⟨rfl, rfl⟩⟩
theorem ownN_is {w : World} {B : Nat} {v : Value} {L : List Pl.Nd} (h : ownN w B v L) : ∃ a cap, v = .slice a L.length cap ∧ zb5 w a L := by
 rcases h.2 with ⟨rfl, h0⟩ | ⟨g, cap, cur, rfl, hb, hg, hc, hm, hsz, ht⟩
 ·exact ⟨none, 0, by rw [h0], fun i n hi => by rw [List.length_eq_zero_iff.1 h0] at hi; simp at hi⟩
 ·refine ⟨some ⟨g, 0, none⟩, cap, rfl, fun i n hi => ?_⟩
  have hlt : i < L.length := (List.getElem?_eq_some_iff.1 hi).1
  have c : ∀ j, j < 5 → w.cell? ⟨g, 0 + i * 5 + j, none⟩ = n.cs[j]? := fun j hj => by
   rw [cell_of_row w g _ cur _ (0, 0) hg, Nat.zero_add, ← Pl.yf0 L i n hi j hj, ← ht, List.getElem?_take_of_lt (by omega), Array.getElem?_toList]
  exact ⟨g, 0, rfl, (Array.getElem?_eq_some_iff.1 hg).1, c 0 (by omega), c 1 (by omega), c 2 (by omega), c 3 (by omega), c 4 (by omega)⟩
theorem zi1 (n : Pl.Nd) : ∀ u ∈ n.cs, u.oneCell' = true := by
 intro u hu
 simp only [Pl.Nd.cs, List.mem_cons, List.not_mem_nil, or_false] at hu
 rcases hu with rfl | rfl | rfl | rfl | rfl <;> rfl
theorem zi9 (w : World) (n : Pl.Nd) (T : TypeId) : ∀ j u, n.cs[j]? = some u → (w.alloc (.cells n.cs.toArray T)).cell? ((⟨w.heap.size, 0, none⟩ : Addr).add j) = some u := by
 intro j u hj
 rw [Mem.add_lit]
 exact (Mem.ze w n.cs T).2 j u hj
theorem zg7 {w : World} {B : Nat} {v : Value} {L : List Pl.Nd} {n : Pl.Nd} (h : w.ownsRow B 88 5 v (L.length + 1) (Pl.zb6 L ++ n.cs)) : ownN w B v (L ++ [n]) := by
 unfold ownN
 rw [Pl.yd1, List.length_append]
 have e : Pl.zb6 [n] = n.cs := by simp [Pl.zb6]
 rw [e]; exact h
theorem zo2 {w w' : World} {B : Nat} {v : Value} {L : List Pl.Nd} (h : ownN w B v L) (b : Below w.heap.size w w') : ownN w' B v L := by
 refine ⟨h.1, ?_⟩
 rcases h.2 with h0 | ⟨g, cap, cur, hv, hb, hg, rest⟩
 ·exact .inl h0
 ·exact .inr ⟨g, cap, cur, hv, hb, (b.block _ (Array.getElem?_eq_some_iff.1 hg).1).trans hg, rest⟩
theorem zb7 {w : World} {B B' : Nat} {v : Value} {L : List Pl.Nd} (h : ownN w B v L) (hb : B' ≤ B) : ownN w B' v L := own_mono h hb
end Mem
end Go.Proofs.YtioildojmckepaaGreatDoor

namespace Go.Proofs.YtioildojmckepaaGreatDoor
open Go.RowKit
namespace Mem
def Blk (w : World) (X : Nat) (cs : Array Value) (T : TypeId) : Prop := w.heap[X]? = some (.cells cs T (0, 0))
theorem Blk.lt {w : World} {X : Nat} {cs : Array Value} {T : TypeId} (h : Blk w X cs T) : X < w.heap.size := (Array.getElem?_eq_some_iff.1 h).1
theorem Blk.cell {w : World} {X : Nat} {cs : Array Value} {T : TypeId} (h : Blk w X cs T) (k : Nat) : w.cell? ⟨X, k, none⟩ = cs[k]? := cell_of_row w X k cs T (0, 0) h
theorem Blk.fr {w : World} {X : Nat} {cs : Array Value} {T : TypeId} (h : Blk w X cs T) (k : Nat) : w.frozen? ⟨X, k, none⟩ = false := zj0 h
theorem Blk.call {w w' : World} {X : Nat} {cs : Array Value} {T : TypeId} (h : Blk w X cs T) (b : Below w.heap.size w w') : Blk w' X cs T := (b.block _ h.lt).trans h
theorem Blk.below {w w' : World} {X B : Nat} {cs : Array Value} {T : TypeId} (h : Blk w X cs T) (b : Below B w w') (hX : X < B) : Blk w' X cs T := (b.block _ hX).trans h
theorem Blk.alloc {w : World} {X : Nat} {cs : Array Value} {T : TypeId} (h : Blk w X cs T) (o : Obj) : Blk (w.alloc o) X cs T := h.call ((Below.refl _ _).alloc (Nat.le_refl _) o)
theorem Blk.new (w : World) (cs : Array Value) (T : TypeId) : Blk (w.alloc (.cells cs T)) w.heap.size cs T := heap_alloc_new w _
theorem Blk.grown {w w' : World} {X : Nat} {cs : Array Value} {T : TypeId} {r : Option Nat} (h : Blk w X cs T) (g : w.grownBy w' r) (hr : some X ≠ r) : Blk w' X cs T := (g.block _ h.lt hr).trans h
theorem Blk.put {w : World} {X : Nat} {cs : Array Value} {T : TypeId} (h : Blk w X cs T) (k : Nat) (v : Value) : Blk (w.setCell ⟨X, k, none⟩ v) X (cs.setIfInBounds k v) T := heap_setCell_same w X k cs T v h
theorem Blk.far {w : World} {X : Nat} {cs : Array Value} {T : TypeId} (h : Blk w X cs T) (a : Addr) (v : Value) (ha : X ≠ a.block) : Blk (w.setCell a v) X cs T := (heap_setCell_other w a X v ha).trans h
theorem za4 {w : World} {B : Nat} {v : Value} {L : List Pl.Nd} (h : ownN w B v L) (a : Addr) (u : Value) (ha : a.block < B) : ownN (w.setCell a u) B v L := by
 refine ⟨h.1, ?_⟩
 rcases h.2 with h0 | ⟨g, cap, cur, hv, hb, hg, rest⟩
 ·exact .inl h0
 ·exact .inr ⟨g, cap, cur, hv, hb, (heap_setCell_other w a g u (by omega)).trans hg, rest⟩
theorem ownN_far {w : World} {B : Nat} {v : Value} {L : List Pl.Nd} (h : ownN w B v L) (a : Addr) (u : Value) (ha : ∀ g, v.ownBlock = some g → a.block ≠ g) : ownN (w.setCell a u) B v L := by
 refine ⟨h.1, ?_⟩
 rcases h.2 with h0 | ⟨g, cap, cur, rfl, hb, hg, rest⟩
 ·exact .inl h0
 ·exact .inr ⟨g, cap, cur, rfl, hb, (heap_setCell_other w a g u (fun e => ha g rfl e.symm)).trans hg, rest⟩
theorem zd4 {w : World} {B : Nat} {v : Value} {L : List Pl.Nd} (h : ownN w B v L) (o : Obj) : ownN (w.alloc o) B v L := zo2 h ((Below.refl _ _).alloc (Nat.le_refl _) o)
theorem zd5 {w : World} {B : Nat} {v : Value} {L : List Pl.Nd} (h : ownN w B v L) : ∀ g, v.ownBlock = some g → B ≤ g ∧ g < w.heap.size := fun g hg => World.ownsRow.lt h g hg
theorem zs9 {w : World} {B n cap : Nat} {a : Option Addr} {L : List Pl.Nd} (h : ownN w B (.slice a n cap) L) : n = L.length ∧ zb5 w a L := by
 obtain ⟨a', cap', e, hn⟩ := ownN_is h
 injection e with e1 e2 e3
 subst e1 e2 e3
 exact ⟨rfl, hn⟩
theorem zx2 {w w' : World} {g o : Nat} {r : Option Nat} {L : List Pl.Nd} (h : zb5 w (some ⟨g, o, none⟩) L) (hg : w.grownBy w' r) (hr : some g ≠ r) : zb5 w' (some ⟨g, o, none⟩) L := fun i n hi => by
 obtain ⟨g', o', h1, h2, h3, h4, h5, h6, h7⟩ := h i n hi
 cases h1
 exact ⟨g, o, rfl, Nat.lt_of_lt_of_le h2 hg.size, hg.cell h3 hr, hg.cell h4 hr, hg.cell h5 hr, hg.cell h6 hr, hg.cell h7 hr⟩
theorem zo8 {w w' : World} {B : Nat} {v : Value} {r : Option Nat} {L : List Pl.Nd} (h : ownN w B v L) (hg : w.grownBy w' r) (hr : ∀ g, v.ownBlock = some g → some g ≠ r) : ownN w' B v L := by
 refine ⟨h.1, ?_⟩
 rcases h.2 with h0 | ⟨g, cap, cur, rfl, hb, hh, rest⟩
 ·exact .inl h0
 ·exact .inr ⟨g, cap, cur, rfl, hb, (hg.block g (Array.getElem?_eq_some_iff.1 hh).1 (hr g rfl)).trans hh, rest⟩
theorem zg1 {w w' : World} (b : Below w.heap.size w w') (r : Option Nat) : w.grownBy w' r := ⟨b.os, b.tape, b.output, b.size, fun j hj _ => b.block j hj⟩
theorem zg9 {w v v' : World} {r : Option Nat} (h : w.grownBy v r) (h' : v.grownBy v' r) : w.grownBy v' r :=
 ⟨h'.os.trans h.os, h'.tape.trans h.tape, h'.output.trans h.output, Nat.le_trans h.size h'.size, fun j hj hne => (h'.block j (Nat.lt_of_lt_of_le hj h.size) hne).trans (h.block j hj hne)⟩
end Mem
end Go.Proofs.YtioildojmckepaaGreatDoor

namespace Go.Proofs.YtioildojmckepaaGreatDoor
open Go.RowKit
namespace Pl
theorem under_root {p t : ByteArray} (h : by_ t = []) : under p t = true := (zo0 p t).2 (.inl h)
theorem under_same (p : ByteArray) : under p p = true := (zo0 p p).2 (.inr (.inl rfl))
theorem under_short {p t : ByteArray} (h0 : by_ t ≠ []) (h1 : p ≠ t) (h : ¬ t.size < p.size) : under p t = false := by
 rw [Bool.eq_false_iff]
 intro h2
 rcases (zo0 p t).1 h2 with h3 | h3 | ⟨r, h3⟩
 ·exact h0 h3
 ·exact h1 (zh h3)
 ·have := congrArg List.length h3
  rw [zb9, List.length_append, List.length_cons, zb9] at this
  omega
theorem by_pre (p t : ByteArray) : by_ (p.extract 0 t.size) = (by_ p).take t.size := by rw [zn2]; simp
theorem under_other {p t : ByteArray} (h0 : by_ t ≠ []) (h1 : p ≠ t) (h : p.extract 0 t.size ≠ t) : under p t = false := by
 rw [Bool.eq_false_iff]
 intro h2
 rcases (zo0 p t).1 h2 with h3 | h3 | ⟨r, h3⟩
 ·exact h0 h3
 ·exact h1 (zh h3)
 ·apply h; apply zh; rw [by_pre, h3, ← zb9, List.take_left]
theorem pre_split {p t : ByteArray} (hl : t.size < p.size) (h : p.extract 0 t.size = t) : by_ p = by_ t ++ p[t.size] :: (by_ p).drop (t.size + 1) := by
 have h1 : by_ t = (by_ p).take t.size := by rw [← by_pre, h]
 have h2 : t.size < (by_ p).length := by rw [zb9]; exact hl
 have h3 : (by_ p).drop t.size = p[t.size] :: (by_ p).drop (t.size + 1) := by rw [List.drop_eq_getElem_cons h2]; rfl
 exact (List.take_append_drop t.size (by_ p)).symm.trans (by rw [h3, ← h1]; rfl)
theorem under_yes {p t : ByteArray} (hl : t.size < p.size) (h : p.extract 0 t.size = t) (hb : p[t.size].toNat = 47) : under p t = true := by
 refine (zo0 p t).2 (.inr (.inr ⟨(by_ p).drop (t.size + 1), ?_⟩))
 have hb' : p[t.size] = 47 := UInt8.toNat_inj.1 hb
 rw [← hb']; exact pre_split hl h
theorem under_no {p t : ByteArray} (h0 : by_ t ≠ []) (h1 : p ≠ t) (hl : t.size < p.size) (h : p.extract 0 t.size = t) (hb : p[t.size].toNat ≠ 47) : under p t = false := by
 rw [Bool.eq_false_iff]
 intro h2
 rcases (zo0 p t).1 h2 with h3 | h3 | ⟨r, h3⟩
 ·exact h0 h3
 ·exact h1 (zh h3)
 ·rw [pre_split hl h] at h3
  have := List.append_cancel_left h3
  simp at this
  exact hb (by rw [this.1]; rfl)
end Pl
namespace zf3
set_option maxRecDepth 100000 in
set_option maxHeartbeats 400000 in
theorem ye0 (p t : ByteArray) (w : World) (ht : t.size ≤ 1048576) :
  Calls Tryz.prog 105 #[.string p, .string t] w fun e w' => e = .returned (.bool (Pl.under p t)) ∧ w' = w := by
 by_cases h0 : Pl.by_ t = []
 ·have E := hide (Pl.under_root (p := p) h0)
  have d1 : t.toList.isEmpty = true := by rw [Pl.zc5]; simp [h0]
  clear h0
  go_enter Tryz.func105, Tryz.ntmps105
  go_wp2
  go_ret
  exact ⟨za2 (za E).symm, rfl⟩
 have d1 : t.toList.isEmpty = false := by rw [Pl.zc5]; simp [h0]
 by_cases h1 : p = t
 ·subst h1
  have E := hide (Pl.under_same p)
  clear h0
  go_enter Tryz.func105, Tryz.ntmps105
  go_wp2
  go_ret
  exact ⟨za2 (za E).symm, rfl⟩
 have d2 := Pl.zp7 h1
 by_cases hl : t.size < p.size
 ·have k1 : (t.size : Int) < (p.size : Int) := by omega
  have k2 : (t.size : Int) ≤ (p.size : Int) := by omega
  have k3 : (0 : Int) ≤ (t.size : Int) := by omega
  by_cases h3 : p.extract 0 t.size = t
  ·have d3 := Pl.zu8 h3
   by_cases h4 : p[t.size].toNat = 47
   ·have E := hide (Pl.under_yes hl h3 h4)
    have d4 : ((p[t.size].toNat : Int) == 47) = true := by rw [beq_iff_eq]; omega
    clear h0 h1 h3 h4
    go_enter Tryz.func105, Tryz.ntmps105
    go_wp2
    go_ret
    exact ⟨za2 (za E).symm, rfl⟩
   ·have E := hide (Pl.under_no h0 h1 hl h3 h4)
    have d4 : ((p[t.size].toNat : Int) == 47) = false := by rw [beq_eq_false_iff_ne]; omega
    clear h0 h1 h3 h4
    go_enter Tryz.func105, Tryz.ntmps105
    go_wp2
    go_ret
    exact ⟨za2 (za E).symm, rfl⟩
  ·have E := hide (Pl.under_other h0 h1 h3)
   have d3 := Pl.zp7 h3
   clear h0 h1 h3
   go_enter Tryz.func105, Tryz.ntmps105
   go_wp2
   go_ret
   exact ⟨za2 (za E).symm, rfl⟩
 ·have E := hide (Pl.under_short h0 h1 hl)
  have k1 : ¬ (t.size : Int) < (p.size : Int) := by omega
  clear h0 h1
  go_enter Tryz.func105, Tryz.ntmps105
  go_wp2
  go_ret
  exact ⟨za2 (za E).symm, rfl⟩
end zf3
end Go.Proofs.YtioildojmckepaaGreatDoor

namespace Go.Proofs.YtioildojmckepaaGreatDoor
open Go.RowKit
namespace Pl
def zj7 (L : List Nd) (p : ByteArray) : Bool := L.any (fun m => !decide (m.path = p) && under m.path p)
theorem over_yes {L : List Nd} {p : ByteArray} {k : Nat} {n : Nd} (hn : L[k]? = some n) (h1 : n.path ≠ p) (h2 : under n.path p = true) : zj7 L p = true :=
 List.any_eq_true.2 ⟨n, List.mem_of_getElem? hn, by simp [h1, h2]⟩
theorem over_no {L : List Nd} {p : ByteArray} (h : ∀ (j : Nat) m, L[j]? = some m → m.path = p ∨ under m.path p = false) : zj7 L p = false := by
 rw [zj7, List.any_eq_false]
 intro m hm
 obtain ⟨j, hj⟩ := List.mem_iff_getElem?.1 hm
 rcases h j m hj with h | h <;> simp [h]
end Pl
namespace WPutS
theorem tl_ne {a b : ByteArray} (h : a ≠ b) : (a.toList == b.toList) = false := by
 rw [beq_eq_false_iff_ne]
 intro e
 exact h (Pl.zh (by rw [ByteArray.toList_eq, ByteArray.toList_eq] at e; exact e))
set_option linter.unusedSimpArgs false in
set_option maxRecDepth 100000 in
set_option maxHeartbeats 2000000 in
theorem over_any (a : Option Addr) (cap : Nat) (L : List Pl.Nd) (p : ByteArray) (w : World) (hl : L.length ≤ 1048576) (hv : Mem.zb5 w a L) (hp : p.size ≤ 1048576) :
  Calls Tryz.prog 103 #[.agg #[.slice a L.length cap], .string p] w fun e w' => e = .returned (.bool (Pl.zj7 L p)) ∧ Below w.heap.size w w' := by
 have b0 : Below w.heap.size w (w.alloc (.cells #[.slice a L.length cap] 36)) := (Below.refl _ _).alloc (Nat.le_refl _) _
 have HV := hide (Mem.za5 hv b0)
 have E1 : Hid (∀ (k : Nat) n, L[k]? = some n → n.path ≠ p → Pl.under n.path p = true → Pl.zj7 L p = true) := fun k n => Pl.over_yes
 have E2 : Hid ((∀ (j : Nat) m, L[j]? = some m → m.path = p ∨ Pl.under m.path p = false) → Pl.zj7 L p = false) := Pl.over_no
 generalize Pl.zj7 L p = R at E1 E2 ⊢
 clear hv
 go_enter Tryz.func103, Tryz.ntmps103
 go_wp2
 go_loop [5] (fun i => ∃ k : Nat, k ≤ L.length ∧ i = .int .i64 (k : Int) ∧ Hid (∀ (j : Nat) m, j < k → L[j]? = some m → m.path = p ∨ Pl.under m.path p = false)) (fun i => L.length - (intOf i).toNat)
 case atStart => exact ⟨0, Nat.zero_le _, rfl, fun j m h => absurd h (by omega)⟩
 case round =>
  obtain ⟨k, hk, rfl, HA⟩ := hrel
  by_cases hlt : k < L.length
  ·obtain ⟨n, hn⟩ : ∃ n, L[k]? = some n := ⟨_, List.getElem?_eq_getElem hlt⟩
   obtain ⟨b, o, rfl, hb, q0, -, -, -, -⟩ := (za HV) k n hn
   have y1 : (k : Int) < (L.length : Int) := by omega
   have y3 : (0 : Int) ≤ (k : Int) := by omega
   have EN := hide hn
   by_cases hqp : n.path = p
   ·have HA2 : Hid (∀ (j : Nat) m, j < k + 1 → L[j]? = some m → m.path = p ∨ Pl.under m.path p = false) := fun j m hj hm => by
     rcases Nat.lt_succ_iff_lt_or_eq.1 hj with h'' | rfl
     ·exact HA.out j m h'' hm
     ·rw [za EN] at hm; cases hm; exact .inl hqp
    rw [hqp] at q0
    clear hn EN hqp
    go_wp2
    go_round
    case rel => exact ⟨k + 1, by omega, by go_num, HA2⟩
    case measure => simp [intOf]; omega
   ·have t1 := tl_ne hqp
    have hcu := hide (fun W => zf3.ye0 n.path p W hp)
    cases hun : Pl.under n.path p
    ·have HA2 : Hid (∀ (j : Nat) m, j < k + 1 → L[j]? = some m → m.path = p ∨ Pl.under m.path p = false) := fun j m hj hm => by
      rcases Nat.lt_succ_iff_lt_or_eq.1 hj with h'' | rfl
      ·exact HA.out j m h'' hm
      ·rw [za EN] at hm; cases hm; exact .inr hun
     rw [hun] at hcu
     generalize n.path = np at q0 t1 hcu
     clear hn EN hqp hun
     go_wp2_with (go_at_call 105; refine (za hcu _).mono ?_; rintro e w' ⟨rfl, hw⟩; obtain rfl := hw.symm)
     go_round
     case rel => exact ⟨k + 1, by omega, by go_num, HA2⟩
     case measure => simp [intOf]; omega
    ·have E := hide (za E1 k n hn hqp hun)
     rw [hun] at hcu
     generalize n.path = np at q0 t1 hcu
     clear hn EN hqp hun
     go_wp2_with (go_at_call 105; refine (za hcu _).mono ?_; rintro e w' ⟨rfl, hw⟩; obtain rfl := hw.symm)
     go_ret
     exact ⟨za2 (za E).symm, b0⟩
  ·have E := hide (za E2 (fun j n h => HA.out j n (by have := (List.getElem?_eq_some_iff.1 h).1; omega) h))
   have u1 : ¬ (k : Int) < (L.length : Int) := by omega
   go_wp2
   go_ret
   exact ⟨za2 (za E).symm, b0⟩
end WPutS
end Go.Proofs.YtioildojmckepaaGreatDoor

