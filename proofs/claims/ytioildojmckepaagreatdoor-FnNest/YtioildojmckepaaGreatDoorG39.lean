/- Several texts of one claim in one file: WReadK, MemIo, WNReadK, WBytesF. -/
import Derived.Test.YtioildojmckepaaGreatDoorG08
import Derived.Test.YtioildojmckepaaGreatDoorProg
import Derived.WalkSpells
import Derived.Lib.OthersKept
import Derived.Laws.RangeAny
import Derived.Deep.Draws
import Derived.Deep.QuietTactic
import Derived.BigQuiet
import Derived.Deep.RegionHeld3
import Derived.Test.YtioildojmckepaaGreatDoorG04
import Derived.Test.YtioildojmckepaaGreatDoorPlainCells
import Derived.Test.YtioildojmckepaaGreatDoorPlainNRead
import Derived.Test.YtioildojmckepaaGreatDoorWBytesI
namespace Go.Proofs.YtioildojmckepaaGreatDoor
open Go.RowKit
namespace zv5
structure Ks (w wr : World) (X2 X3 X4 B : Nat) (rc : Array Value) (RT : TypeId) (v : Value) (L : List Pl.Nd) : Prop where
 bel : Below w.heap.size w wr
 big : B ≤ wr.heap.size
 x2 : Mem.Blk wr X2 #[.slice none 0 0, .int .i64 0] 62
 x3 : Mem.Blk wr X3 rc RT
 x4 : Mem.Blk wr X4 #[v] 36
 row : Mem.ownN wr B v L
 l2 : w.heap.size ≤ X2 ∧ X2 < B
 l3 : w.heap.size ≤ X3 ∧ X3 < B
 l4 : w.heap.size ≤ X4 ∧ X4 < B
 n23 : X2 ≠ X3
 n24 : X2 ≠ X4
 n34 : X3 ≠ X4
theorem Ks.own {w wr : World} {X2 X3 X4 B : Nat} {rc : Array Value} {RT : TypeId} {v : Value} {L : List Pl.Nd} (h : Ks w wr X2 X3 X4 B rc RT v L) : ∀ g, v.ownBlock = some g → B ≤ g ∧ g < wr.heap.size := Mem.zd5 h.row
theorem Ks.read {w wr W : World} {X2 X3 X4 B : Nat} {rc rc' : Array Value} {RT : TypeId} {v : Value} {L : List Pl.Nd} (h : Ks w wr X2 X3 X4 B rc RT v L) (g : wr.grownBy W (some X3)) (hr : Mem.Blk W X3 rc' RT) : Ks w W X2 X3 X4 B rc' RT v L :=
 ⟨h.bel.grown g h.bel.size (fun k hk => by cases hk; exact h.l3.1), Nat.le_trans h.big g.size, h.x2.grown g (fun e => h.n23 (Option.some.inj e)), hr, h.x4.grown g (fun e => h.n34 (Option.some.inj e).symm),
  Mem.zo8 h.row g (fun k hk e => by cases e; have := (h.own _ hk).1; have := h.l3.2; omega), h.l2, h.l3, h.l4, h.n23, h.n24, h.n34⟩
theorem Ks.call {w wr W : World} {X2 X3 X4 B : Nat} {rc : Array Value} {RT : TypeId} {v : Value} {L : List Pl.Nd} (h : Ks w wr X2 X3 X4 B rc RT v L) (b : Below wr.heap.size wr W) : Ks w W X2 X3 X4 B rc RT v L :=
 ⟨h.bel.trans (b.mono h.bel.size), Nat.le_trans h.big b.size, h.x2.call b, h.x3.call b, h.x4.call b, Mem.zo2 h.row b, h.l2, h.l3, h.l4, h.n23, h.n24, h.n34⟩
theorem Ks.alloc {w wr : World} {X2 X3 X4 B : Nat} {rc : Array Value} {RT : TypeId} {v : Value} {L : List Pl.Nd} (h : Ks w wr X2 X3 X4 B rc RT v L) (o : Obj) : Ks w (wr.alloc o) X2 X3 X4 B rc RT v L := h.call ((Below.refl _ _).alloc (Nat.le_refl _) o)
theorem Ks.set {w wr : World} {X2 X3 X4 B : Nat} {rc : Array Value} {RT : TypeId} {v : Value} {L : List Pl.Nd} (h : Ks w wr X2 X3 X4 B rc RT v L) (p : Addr) (u : Value) (hp : B ≤ p.block) (hv : v.ownBlock ≠ some p.block) : Ks w (wr.setCell p u) X2 X3 X4 B rc RT v L := by
 have h2 := h.l2
 have h3 := h.l3
 have h4 := h.l4
 exact ⟨h.bel.setCell (by omega) _, by simpa using h.big, h.x2.far _ _ (by omega), h.x3.far _ _ (by omega), h.x4.far _ _ (by omega), Mem.ownN_far h.row _ _ (fun g hg e => hv (by rw [hg, e])), h.l2, h.l3, h.l4, h.n23, h.n24, h.n34⟩
theorem Ks.put {w wr w4 : World} {X2 X3 X4 B : Nat} {rc : Array Value} {RT : TypeId} {v v' : Value} {L : List Pl.Nd} {n : Pl.Nd} {o : Obj} (h : Ks w wr X2 X3 X4 B rc RT v L)
  (own : w4.ownsRow B 88 5 v' (L.length + 1) (Pl.zb6 L ++ n.cs)) (gr : (wr.alloc o).grownBy w4 v.ownBlock) : Ks w (w4.setCell ⟨X4, 0, none⟩ v') X2 X3 X4 B rc RT v' (L ++ [n]) := by
 have h' := h.alloc o
 have h2 := h.l2
 have h3 := h.l3
 have h4 := h.l4
 have e5 : (w4.setCell ⟨X4, 0, none⟩ v').heap.size = w4.heap.size := by simp
 refine ⟨?_, ?_, ?_, ?_, ?_, ?_, h.l2, h.l3, h.l4, h.n23, h.n24, h.n34⟩
 ·exact (h'.bel.grown gr h'.bel.size (fun k hk => by have := (h'.own k hk).1; omega)).setCell (by show w.heap.size ≤ X4; omega) _
 ·have := gr.size; have := h'.big; omega
 ·exact (h'.x2.grown gr (fun e => by have := (h'.own _ e.symm).1; omega)).far _ _ (by show X2 ≠ X4; exact h.n24)
 ·exact (h'.x3.grown gr (fun e => by have := (h'.own _ e.symm).1; omega)).far _ _ (by show X3 ≠ X4; exact h.n34)
 ·exact (h'.x4.grown gr (fun e => by have := (h'.own _ e.symm).1; omega)).put 0 v'
 ·exact Mem.za4 (Mem.zg7 own) _ _ (by show X4 < B; omega)
theorem Ks.mid {w wr w4 : World} {X2 X3 X4 B : Nat} {rc : Array Value} {RT : TypeId} {v : Value} {L : List Pl.Nd} {o : Obj} (h : Ks w wr X2 X3 X4 B rc RT v L) (gr : (wr.alloc o).grownBy w4 v.ownBlock) : Mem.Blk w4 X4 #[v] 36 :=
 (h.x4.alloc o).grown gr (fun e => by have := (h.own _ e.symm).1; have := h.l4; omega)
theorem Ks.done {w wr : World} {X2 X3 X4 B : Nat} {rc : Array Value} {RT : TypeId} {v : Value} {L : List Pl.Nd} (h : Ks w wr X2 X3 X4 B rc RT v L) (u0 u1 : Value) : Mem.ownN ((wr.setCell ⟨X2, 0, none⟩ u0).setCell ⟨X2, 1, none⟩ u1) w.heap.size v L ∧ Below w.heap.size w ((wr.setCell ⟨X2, 0, none⟩ u0).setCell ⟨X2, 1, none⟩ u1) := by
 have h2 := h.l2
 refine ⟨?_, (h.bel.setCell (by show w.heap.size ≤ X2; omega) _).setCell (by show w.heap.size ≤ X2; omega) _⟩
 have := Mem.za4 (Mem.za4 h.row ⟨X2, 0, none⟩ u0 (by show X2 < B; omega)) ⟨X2, 1, none⟩ u1 (by show X2 < B; omega)
 refine ⟨this.1, ?_⟩
 rcases this.2 with h0 | ⟨g, cap, cur, hv, hb, rest⟩
 ·exact .inl h0
 ·exact .inr ⟨g, cap, cur, hv, by omega, rest⟩
end zv5
end Go.Proofs.YtioildojmckepaaGreatDoor

namespace Go.Proofs.YtioildojmckepaaGreatDoor
open Go.RowKit
namespace Mem
theorem row_off2 {w w' : World} {B e size n : Nat} {v : Value} {xs : List Value} {r : Option Nat} (h : w.ownsRow B e size v n xs) (hg : w.grownBy w' r) (hr : ∀ g, v.ownBlock = some g → some g ≠ r) : w'.ownsRow B e size v n xs := by
 refine ⟨h.1, ?_⟩
 rcases h.2 with h0 | ⟨g, cap, cur, rfl, hb, hh, rest⟩
 ·exact .inl h0
 ·exact .inr ⟨g, cap, cur, rfl, hb, (hg.block g (Array.getElem?_eq_some_iff.1 hh).1 (hr g rfl)).trans hh, rest⟩
structure Io (W : World) (S : Nat) (v : Value) (Is : List Pl.It) : Prop where
 row : W.ownsRow S 38 2 v Is.length (Pl.ze3 Is)
 each : ∀ (i : Nat) x, Is[i]? = some x → ownN W S x.t.val x.t.L ∧ ∀ g, x.t.val.ownBlock = some g → v.ownBlock ≠ some g
 apart : ∀ (i j : Nat) x y, i ≠ j → Is[i]? = some x → Is[j]? = some y → ∀ g, x.t.val.ownBlock = some g → y.t.val.ownBlock ≠ some g
theorem Io.call {W W' : World} {S : Nat} {v : Value} {Is : List Pl.It} (h : Io W S v Is) (b : Below W.heap.size W W') : Io W' S v Is :=
 ⟨zk3 h.row b, fun i x hx => ⟨zo2 (h.each i x hx).1 b, (h.each i x hx).2⟩, h.apart⟩
theorem Io.mono {W : World} {S S' : Nat} {v : Value} {Is : List Pl.It} (h : Io W S v Is) (hs : S' ≤ S) : Io W S' v Is :=
 ⟨own_mono h.row hs, fun i x hx => ⟨zb7 (h.each i x hx).1 hs, (h.each i x hx).2⟩, h.apart⟩
theorem Io.set {W : World} {S : Nat} {v : Value} {Is : List Pl.It} (h : Io W S v Is) (p : Addr) (u : Value) (hp : p.block < S) : Io (W.setCell p u) S v Is := by
 refine ⟨⟨h.row.1, ?_⟩, fun i x hx => ⟨za4 (h.each i x hx).1 p u hp, (h.each i x hx).2⟩, h.apart⟩
 rcases h.row.2 with h0 | ⟨g, cap, cur, hv, hb, hg, rest⟩
 ·exact .inl h0
 ·exact .inr ⟨g, cap, cur, hv, hb, (heap_setCell_other _ _ _ _ (by omega)).trans hg, rest⟩
theorem Io.app {W W' : World} {S S1 : Nat} {v v1 v' : Value} {Is Is1 : List Pl.It} (h : Io W S v Is) (h1 : Io W S1 v1 Is1) (hS : S ≤ S1) (hv : ∀ g, v.ownBlock = some g → g < S1) (hb : ∀ (i : Nat) x, Is[i]? = some x → ∀ g, x.t.val.ownBlock = some g → g < S1)
  (own' : W'.ownsRow S 38 2 v' (Is.length + Is1.length) (Pl.ze3 Is ++ Pl.ze3 Is1)) (gr : W.grownBy W' v.ownBlock) (far : ∀ g, v'.ownBlock = some g → v.ownBlock = some g ∨ W.heap.size ≤ g) : Io W' S v' (Is ++ Is1) := by
 have key : ∀ x : Pl.It, ownN W S x.t.val x.t.L → (∀ g, x.t.val.ownBlock = some g → v.ownBlock ≠ some g) → ownN W' S x.t.val x.t.L ∧ ∀ g, x.t.val.ownBlock = some g → v'.ownBlock ≠ some g := fun x hx hn =>
  ⟨row_off2 hx gr (fun g hg e => hn g hg e.symm), fun g hg e => by
   rcases far g e with h2 | h2
   ·exact hn g hg h2
   ·have := (zd5 hx g hg).2; omega⟩
 have lo1 : ∀ (i : Nat) x, Is1[i]? = some x → ∀ g, x.t.val.ownBlock = some g → S1 ≤ g := fun i x hx g hg => (zd5 (h1.each i x hx).1 g hg).1
 refine ⟨by rw [List.length_append, Pl.zf2]; exact own', fun i x hx => ?_, fun i j x y hij hx hy g hg => ?_⟩
 ·by_cases e : i < Is.length
  ·rw [List.getElem?_append_left e] at hx
   exact key x (h.each i x hx).1 (h.each i x hx).2
  ·rw [List.getElem?_append_right (by omega)] at hx
   exact key x (zb7 (h1.each _ x hx).1 hS) (fun g hg e2 => by have := lo1 _ x hx g hg; have := hv g e2; omega)
 ·by_cases e : i < Is.length
  ·rw [List.getElem?_append_left e] at hx
   by_cases e2 : j < Is.length
   ·rw [List.getElem?_append_left e2] at hy
    exact h.apart i j x y hij hx hy g hg
   ·rw [List.getElem?_append_right (by omega)] at hy
    intro e3
    have := lo1 _ y hy g e3
    have := hb i x hx g hg
    omega
  ·rw [List.getElem?_append_right (by omega)] at hx
   by_cases e2 : j < Is.length
   ·rw [List.getElem?_append_left e2] at hy
    intro e3
    have := lo1 _ x hx g hg
    have := hb j y hy g e3
    omega
   ·rw [List.getElem?_append_right (by omega)] at hy
    exact h1.apart _ _ x y (by omega) hx hy g hg
theorem Io.items {W : World} {S cap n : Nat} {a : Option Addr} {Is : List Pl.It} (h : Io W S (.slice a n cap) Is) : n = Is.length ∧ za7 W a Is := by
 rcases h.row.2 with ⟨e, h0⟩ | ⟨g, c, cur, e, hb, hg, rest⟩
 ·cases e
  have : Is = [] := List.eq_nil_of_length_eq_zero h0
  subst this
  exact ⟨rfl, ya3 _ _⟩
 ·cases e
  refine ⟨rfl, fun i x hx => ⟨⟨g, 0, rfl, (Array.getElem?_eq_some_iff.1 hg).1, ?_, ?_⟩, (zs9 (h.each i x hx).1).2⟩⟩
  ·have := World.ownsRow.cells h.row (g := g) rfl (i * 2) _ (Pl.zw4 Is i x hx).1
   rw [add_lit] at this
   rw [Nat.zero_add]; exact this
  ·have := World.ownsRow.cells h.row (g := g) rfl (i * 2 + 1) _ (Pl.zw4 Is i x hx).2
   rw [add_lit] at this
   rw [Nat.zero_add]; exact this
theorem Io.lt {W : World} {S : Nat} {v : Value} {Is : List Pl.It} (h : Io W S v Is) : (∀ g, v.ownBlock = some g → S ≤ g ∧ g < W.heap.size) ∧ ∀ (i : Nat) x, Is[i]? = some x → ∀ g, x.t.val.ownBlock = some g → S ≤ g ∧ g < W.heap.size :=
 ⟨fun g hg => World.ownsRow.lt h.row g hg, fun i x hx g hg => zd5 (h.each i x hx).1 g hg⟩
theorem Io.nil (W : World) (S : Nat) : Io W S (.slice none 0 0) [] := ⟨⟨rfl, .inl ⟨rfl, rfl⟩⟩, fun i x h => (by cases h), fun i j x y _ h => (by cases h)⟩
theorem Io.one {W : World} {S g : Nat} {m : Int} {t : Pl.Tr} (hb : S ≤ g) (hg : W.heap[g]? = some (.cells #[.int .i64 m, t.val] 38 (0, 0))) (ht : ownN W S t.val t.L) (hn : ∀ q, t.val.ownBlock = some q → q ≠ g) : Io W S (.slice (some ⟨g, 0, none⟩) 1 1) [⟨m, t⟩] := by
 refine ⟨⟨rfl, .inr ⟨g, 1, _, rfl, hb, hg, Nat.le_refl _, by decide, rfl, rfl⟩⟩, fun i x hx => ?_, fun i j x y hij hx hy => ?_⟩
 ·cases i with
  | zero =>
   have e : (⟨m, t⟩ : Pl.It) = x := by simpa using hx
   subst e
   exact ⟨ht, fun q hq e => hn q hq (Option.some.inj e).symm⟩
  | succ i => simp at hx
 ·cases i with
  | zero =>
   cases j with
   | zero => exact absurd rfl hij
   | succ j => simp at hy
  | succ i => simp at hx
end Mem
end Go.Proofs.YtioildojmckepaaGreatDoor

namespace Go.Proofs.YtioildojmckepaaGreatDoor
open Go.RowKit
namespace Pl
theorem treeB_ok {L : List Nd} (h : zb1 L = true) : L.length ≤ 1048576 ∧ ∀ n ∈ L, n.path.size ≤ 1048576 ∧ n.data.size ≤ 1048576 := by
 obtain ⟨h40, hn⟩ := zn3 h
 refine ⟨by omega, fun n hm => ?_⟩
 have hb := hn n hm
 obtain ⟨hd, -, -, -⟩ := zl3 hb
 have hp := path_126 (zf9 hb).1
 omega
theorem ya6 {s : ByteArray} {a : Int} (j : Nat) (h : (za1 s a j).f = none) : ∀ x ∈ (za1 s a j).L, zb1 x.2 = true := by
 induction j with
 | zero => intro x hx; cases hx
 | succ j ih =>
  have h' : (zf7 s (za1 s a j).a (za1 s a j).f).f = none := h
  obtain ⟨hf, -, -, -, -, -, -, -, ht⟩ := zy1 h'
  intro x hx
  rcases List.mem_append.1 hx with hx | hx
  ·exact ih hf x hx
  ·cases List.mem_singleton.1 hx; exact ht
theorem yb4 {s : ByteArray} {a : Int} (h8 : s.size ≤ 8000) (ha : a ≤ 9223372036854775807) (j : Nat) : (za1 s a j).a ≤ 9223372036854775807 := by
 induction j with
 | zero => exact ha
 | succ j ih => exact zx7 h8 (zo h8 ih)
end Pl
namespace Mem
theorem Io.grown {W W' : World} {S : Nat} {v : Value} {Is : List Pl.It} {r : Option Nat} (h : Io W S v Is) (g : W.grownBy W' r) (hr : ∀ q, r = some q → q < S) : Io W' S v Is :=
 ⟨row_off2 h.row g (fun k hk e => by have := (h.lt.1 k hk).1; have := hr k e.symm; omega), fun i x hx => ⟨zo8 (h.each i x hx).1 g (fun k hk e => by have := (h.lt.2 i x hx k hk).1; have := hr k e.symm; omega), (h.each i x hx).2⟩, h.apart⟩
end Mem
namespace zf5
def Outs (w w' : World) (C : Int) (O : List (Int × List Pl.Nd)) (e : Ending) : Prop := ∃ v Is, e = .returned (.agg #[v, .int .i64 C]) ∧ Mem.Io w' w.heap.size v Is ∧ Is.map Pl.It.r = O
theorem infoI : (Tryz.prog.info? 38).map (fun i => (i.zero, i.size, i.bytes)) = some (some (.agg #[.int .i64 0, .slice none 0 0]), 2, 32) := by kernel_rfl
structure Nk (w wr : World) (X2 X3 B : Nat) (rc : Array Value) (RT : TypeId) (v : Value) (Is : List Pl.It) : Prop where
 bel : Below w.heap.size w wr
 big : B ≤ wr.heap.size
 x2 : Mem.Blk wr X2 #[.slice none 0 0, .int .i64 0] 28
 x3 : Mem.Blk wr X3 rc RT
 row : Mem.Io wr B v Is
 l2 : w.heap.size ≤ X2 ∧ X2 < B
 l3 : w.heap.size ≤ X3 ∧ X3 < B
 n23 : X2 ≠ X3
theorem Nk.read {w wr W : World} {X2 X3 B : Nat} {rc rc' : Array Value} {RT : TypeId} {v : Value} {Is : List Pl.It} (h : Nk w wr X2 X3 B rc RT v Is) (g : wr.grownBy W (some X3)) (hr : Mem.Blk W X3 rc' RT) : Nk w W X2 X3 B rc' RT v Is :=
 ⟨h.bel.grown g h.bel.size (fun k hk => by cases hk; exact h.l3.1), Nat.le_trans h.big g.size, h.x2.grown g (fun e => h.n23 (Option.some.inj e)), hr, h.row.grown g (fun q hq => by cases hq; exact h.l3.2), h.l2, h.l3, h.n23⟩
theorem Nk.call {w wr W : World} {X2 X3 B : Nat} {rc : Array Value} {RT : TypeId} {v : Value} {Is : List Pl.It} (h : Nk w wr X2 X3 B rc RT v Is) (b : Below wr.heap.size wr W) : Nk w W X2 X3 B rc RT v Is :=
 h.read (Mem.zg1 b _) (h.x3.call b)
theorem Nk.put {w wr W w4 : World} {X2 X3 B S : Nat} {rc rc' : Array Value} {RT : TypeId} {v v' : Value} {Is : List Pl.It} {m : Int} {t : Pl.Tr} (h : Nk w wr X2 X3 B rc RT v Is) (g : wr.grownBy W (some X3)) (hr : Mem.Blk W X3 rc' RT)
  (ht : Mem.ownN W S t.val t.L) (hS : wr.heap.size ≤ S)
  (own : w4.ownsRow B 38 2 v' (Is.length + 1) (Pl.ze3 Is ++ [.int .i64 m, t.val])) (gr : (W.alloc (.cells #[.int .i64 m, t.val] 38)).grownBy w4 v.ownBlock) (far : ∀ g, v'.ownBlock = some g → v.ownBlock = some g ∨ (W.alloc (.cells #[.int .i64 m, t.val] 38)).heap.size ≤ g) :
  Nk w w4 X2 X3 B rc' RT v' (Is ++ [⟨m, t⟩]) := by
 have hb := h.row.lt
 have bA : Below W.heap.size W (W.alloc (.cells #[.int .i64 m, t.val] 38)) := (Below.refl _ _).alloc (Nat.le_refl _) _
 have hK := (h.read g hr).call bA
 have hbig := h.big
 have gs := g.size
 have ht2 := Mem.zo2 ht bA
 have one : Mem.Io (W.alloc (.cells #[.int .i64 m, t.val] 38)) wr.heap.size (.slice (some ⟨W.heap.size, 0, none⟩) 1 1) [⟨m, t⟩] :=
  Mem.Io.one gs (heap_alloc_new _ _) (Mem.zb7 ht2 hS) (fun q hq e => by have := (Mem.zd5 ht q hq).2; omega)
 have l2 := h.l2
 have l3 := h.l3
 have ob : ∀ q, v.ownBlock = some q → B ≤ q := fun q hq => (hb.1 q hq).1
 refine ⟨hK.bel.grown gr hK.bel.size (fun q hq => by have := ob q hq; omega), Nat.le_trans hK.big gr.size, hK.x2.grown gr (fun e => by have := ob _ e.symm; omega), hK.x3.grown gr (fun e => by have := ob _ e.symm; omega), ?_, h.l2, h.l3, h.n23⟩
 exact hK.row.app one hbig (fun q hq => (hb.1 q hq).2) (fun i x hx q hq => (hb.2 i x hx q hq).2) own gr far
theorem Nk.done {w wr : World} {X2 X3 B : Nat} {rc : Array Value} {RT : TypeId} {v : Value} {Is : List Pl.It} (h : Nk w wr X2 X3 B rc RT v Is) (u0 u1 : Value) : Mem.Io ((wr.setCell ⟨X2, 0, none⟩ u0).setCell ⟨X2, 1, none⟩ u1) w.heap.size v Is ∧ Below w.heap.size w ((wr.setCell ⟨X2, 0, none⟩ u0).setCell ⟨X2, 1, none⟩ u1) := by
 have h2 := h.l2
 exact ⟨((h.row.set _ u0 (by show X2 < B; omega)).set _ u1 (by show X2 < B; omega)).mono (by omega), (h.bel.setCell (by show w.heap.size ≤ X2; omega) _).setCell (by show w.heap.size ≤ X2; omega) _⟩
theorem own_cap {W : World} {B n vc : Nat} {va : Option Addr} {xs : List Value} (own : W.ownsRow B 38 2 (.slice va n vc) n xs) : n ≤ vc := by
 rcases own.2 with ⟨e, h0⟩ | ⟨g, cap, cur, e, -, -, h, -⟩
 ·omega
 ·cases e; exact h
theorem zg3 (w : World) (m : Int) (u : Value) (e : TypeId) : ∀ j x, [Value.int .i64 m, u][j]? = some x → (w.alloc (.cells #[.int .i64 m, u] e)).cell? ((⟨w.heap.size, 0, none⟩ : Addr).add j) = some x := by
 intro j x hx
 rw [Mem.add_lit, cell_of_row _ _ _ _ _ (0, 0) (heap_alloc_new _ _)]
 simpa using hx
theorem zh4 (m : Int) (a : Option Addr) (n c : Nat) : ∀ x ∈ [Value.int .i64 m, Value.slice a n c], x.oneCell' = true := by
 intro x hx
 simp only [List.mem_cons, List.not_mem_nil, or_false] at hx
 rcases hx with rfl | rfl <;> rfl
end zf5
end Go.Proofs.YtioildojmckepaaGreatDoor

namespace Go.Proofs.YtioildojmckepaaGreatDoor
open Go.RowKit
namespace zo6
set_option maxRecDepth 100000 in
theorem zb8 (a : Option Addr) (cap : Nat) (L : List Pl.Nd) (w : World) (hl : L.length ≤ 1048576) (hv : Mem.zb5 w a L) (hok : ∀ n ∈ L, n.path.size ≤ 1048576 ∧ n.data.size ≤ 1048576) :
  Calls Tryz.prog 60 #[.agg #[.slice a L.length cap]] w fun e w' => e = .returned (.string (Pl.zd7 L)) ∧ Below w.heap.size w w' := by
 have b0 : Below w.heap.size w (w.alloc (.cells #[.slice a L.length cap] 36)) := (Below.refl _ _).alloc (Nat.le_refl _) _
 have hr := hide (zl7.zt0 a cap L _ hl (Mem.za5 hv b0) hok)
 have hby := hide (fun W (b : Below w.heap.size w W) (ht : Pl.zb1 L = true) => zv9 a cap L W (Pl.zn3 ht).1 (Mem.za5 hv b) (Pl.zn3 ht).2)
 have hvar := Mem.ze w [.slice a L.length cap] 36
 have E : Hid (Pl.zd7 L = if Pl.zb1 L then (if 8000 < (Pl.zb4 L).size then ⟨#[]⟩ else Pl.zb4 L) else ⟨#[]⟩) := rfl
 generalize Pl.zd7 L = R at E ⊢
 generalize Pl.zb1 L = R2 at E hr hby
 generalize Pl.zb4 L = Y at E hby
 clear hv hok
 cases R2
 ·have E2 := hide (show R = ⟨#[]⟩ from za E)
  clear hvar hby E
  go_enter Tryz.func60, Tryz.ntmps60
  go_wp2_with fail
  refine (za hr).mono ?_
  rintro e w1 ⟨rfl, b1⟩
  have b2 := b0.trans (b1.mono b0.size)
  clear hr b0 b1
  go_wp2
  go_ret
  exact ⟨zd3 (za E2).symm, b2⟩
 have hby2 := hide (fun W b => za hby W b rfl)
 have EL : Hid (8000 < Y.size → R = ⟨#[]⟩) := fun hy => by have := za E; rw [if_pos rfl, if_pos hy] at this; exact this
 have ES : Hid (¬ 8000 < Y.size → R = Y) := fun hy => by have := za E; rw [if_pos rfl, if_neg hy] at this; exact this
 clear hby E
 go_enter Tryz.func60, Tryz.ntmps60
 go_wp2_with fail
 refine (za hr).mono ?_
 rintro e w1 ⟨rfl, b1⟩
 have b2 := b0.trans (b1.mono b0.size)
 have c0 := (Mem.zf8 hvar b1).2 0 _ rfl
 clear hvar hr b0 b1
 go_wp2_with fail
 refine (za hby2 _ b2).mono ?_
 rintro e w3 ⟨rfl, b3⟩
 have b4 := b2.trans (b3.mono b2.size)
 clear b2 b3 hby2
 by_cases hy : 8000 < Y.size
 ·have E2 := hide (za EL hy)
  clear EL ES
  go_wp2
  go_ret
  exact ⟨zd3 (za E2).symm, b4⟩
 ·have E2 := hide (za ES hy)
  clear EL ES
  go_wp2
  go_ret
  exact ⟨zd3 (za E2).symm, b4⟩
end zo6
end Go.Proofs.YtioildojmckepaaGreatDoor

