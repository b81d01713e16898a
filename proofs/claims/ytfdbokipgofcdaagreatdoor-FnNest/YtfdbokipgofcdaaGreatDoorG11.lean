/- Several texts of one claim in one file: WReadK, MemTrees, MemItems. -/
import Derived.Test.YtfdbokipgofcdaaGreatDoorG07
import Derived.Test.YtfdbokipgofcdaaGreatDoorProg
import Derived.WalkSpells
import Derived.Lib.OthersKept
import Derived.Laws.RangeAny
import Derived.Deep.Draws
import Derived.Deep.QuietTactic
import Derived.BigQuiet
import Derived.Deep.RegionHeld3
import Derived.Test.YtfdbokipgofcdaaGreatDoorG00
import Derived.Below
import Derived.Test.YtfdbokipgofcdaaGreatDoorG02
namespace Go.Proofs.YtfdbokipgofcdaaGreatDoor
open Go.RowKit
namespace yg9
structure Ks (w wr : World) (X2 X3 X4 B : Nat) (rc : Array Value) (RT : TypeId) (v : Value) (L : List Pl.Nd) : Prop where
 bel : Below w.heap.size w wr
 big : B ≤ wr.heap.size
 x2 : Mem.Blk wr X2 #[.slice none 0 0, .int .i64 0] 42
 x3 : Mem.Blk wr X3 rc RT
 x4 : Mem.Blk wr X4 #[v] 36
 row : Mem.ownN wr B v L
 l2 : w.heap.size ≤ X2 ∧ X2 < B
 l3 : w.heap.size ≤ X3 ∧ X3 < B
 l4 : w.heap.size ≤ X4 ∧ X4 < B
 n23 : X2 ≠ X3
 n24 : X2 ≠ X4
 n34 : X3 ≠ X4
theorem Ks.own {w wr : World} {X2 X3 X4 B : Nat} {rc : Array Value} {RT : TypeId} {v : Value} {L : List Pl.Nd} (h : Ks w wr X2 X3 X4 B rc RT v L) : ∀ g, v.ownBlock = some g → B ≤ g ∧ g < wr.heap.size := Mem.zc3 h.row
theorem Ks.read {w wr W : World} {X2 X3 X4 B : Nat} {rc rc' : Array Value} {RT : TypeId} {v : Value} {L : List Pl.Nd} (h : Ks w wr X2 X3 X4 B rc RT v L) (g : wr.grownBy W (some X3)) (hr : Mem.Blk W X3 rc' RT) : Ks w W X2 X3 X4 B rc' RT v L :=
 ⟨h.bel.grown g h.bel.size (fun k hk => by cases hk; exact h.l3.1), Nat.le_trans h.big g.size, h.x2.grown g (fun e => h.n23 (Option.some.inj e)), hr, h.x4.grown g (fun e => h.n34 (Option.some.inj e).symm),
  Mem.zq8 h.row g (fun k hk e => by cases e; have := (h.own _ hk).1; have := h.l3.2; omega), h.l2, h.l3, h.l4, h.n23, h.n24, h.n34⟩
theorem Ks.call {w wr W : World} {X2 X3 X4 B : Nat} {rc : Array Value} {RT : TypeId} {v : Value} {L : List Pl.Nd} (h : Ks w wr X2 X3 X4 B rc RT v L) (b : Below wr.heap.size wr W) : Ks w W X2 X3 X4 B rc RT v L :=
 ⟨h.bel.trans (b.mono h.bel.size), Nat.le_trans h.big b.size, h.x2.call b, h.x3.call b, h.x4.call b, Mem.zl1 h.row b, h.l2, h.l3, h.l4, h.n23, h.n24, h.n34⟩
theorem Ks.alloc {w wr : World} {X2 X3 X4 B : Nat} {rc : Array Value} {RT : TypeId} {v : Value} {L : List Pl.Nd} (h : Ks w wr X2 X3 X4 B rc RT v L) (o : Obj) : Ks w (wr.alloc o) X2 X3 X4 B rc RT v L := h.call ((Below.refl _ _).alloc (Nat.le_refl _) o)
theorem Ks.set {w wr : World} {X2 X3 X4 B : Nat} {rc : Array Value} {RT : TypeId} {v : Value} {L : List Pl.Nd} (h : Ks w wr X2 X3 X4 B rc RT v L) (p : Addr) (u : Value) (hp : B ≤ p.block) (hv : v.ownBlock ≠ some p.block) : Ks w (wr.setCell p u) X2 X3 X4 B rc RT v L := by
 have h2 := h.l2
 have h3 := h.l3
 have h4 := h.l4
 exact ⟨h.bel.setCell (by omega) _, by simpa using h.big, h.x2.far _ _ (by omega), h.x3.far _ _ (by omega), h.x4.far _ _ (by omega), Mem.zw3 h.row _ _ (fun g hg e => hv (by rw [hg, e])), h.l2, h.l3, h.l4, h.n23, h.n24, h.n34⟩
theorem Ks.put {w wr w4 : World} {X2 X3 X4 B : Nat} {rc : Array Value} {RT : TypeId} {v v' : Value} {L : List Pl.Nd} {n : Pl.Nd} {o : Obj} (h : Ks w wr X2 X3 X4 B rc RT v L)
  (own : w4.ownsRow B 89 5 v' (L.length + 1) (Pl.zc5 L ++ n.cs)) (gr : (wr.alloc o).grownBy w4 v.ownBlock) : Ks w (w4.setCell ⟨X4, 0, none⟩ v') X2 X3 X4 B rc RT v' (L ++ [n]) := by
 have h' := h.alloc o
 have h2 := h.l2
 have h3 := h.l3
 have h4 := h.l4
 have e5 : (w4.setCell ⟨X4, 0, none⟩ v').heap.size = w4.heap.size := by simp
 refine ⟨?_, ?_, ?_, ?_, ?_, ?_, h.l2, h.l3, h.l4, h.n23, h.n24, h.n34⟩
 ·exact (h'.bel.grown gr h'.bel.size (fun k hk => by have := (h'.own k hk).1; omega)).setCell (by show w.heap.size ≤ X4; omega) _
 ·have := gr.size; have := h'.big; omega
 ·exact (h'.x2.grown gr (fun e => by have := (h'.own _ e.symm).1; omega)).far _ _ (by show X2 ≠ X4; exact h.n24)
 ·exact (h'.x3.grown gr (fun e => by have := (h'.own _ e.symm).1; omega)).far _ _ (by show X3 ≠ X4; exact h.n34)
 ·exact (h'.x4.grown gr (fun e => by have := (h'.own _ e.symm).1; omega)).put 0 v'
 ·exact Mem.za7 (Mem.zi4 own) _ _ (by show X4 < B; omega)
theorem Ks.mid {w wr w4 : World} {X2 X3 X4 B : Nat} {rc : Array Value} {RT : TypeId} {v : Value} {L : List Pl.Nd} {o : Obj} (h : Ks w wr X2 X3 X4 B rc RT v L) (gr : (wr.alloc o).grownBy w4 v.ownBlock) : Mem.Blk w4 X4 #[v] 36 :=
 (h.x4.alloc o).grown gr (fun e => by have := (h.own _ e.symm).1; have := h.l4; omega)
theorem Ks.done {w wr : World} {X2 X3 X4 B : Nat} {rc : Array Value} {RT : TypeId} {v : Value} {L : List Pl.Nd} (h : Ks w wr X2 X3 X4 B rc RT v L) (u0 u1 : Value) : Mem.ownN ((wr.setCell ⟨X2, 0, none⟩ u0).setCell ⟨X2, 1, none⟩ u1) w.heap.size v L ∧ Below w.heap.size w ((wr.setCell ⟨X2, 0, none⟩ u0).setCell ⟨X2, 1, none⟩ u1) := by
 have h2 := h.l2
 refine ⟨?_, (h.bel.setCell (by show w.heap.size ≤ X2; omega) _).setCell (by show w.heap.size ≤ X2; omega) _⟩
 have := Mem.za7 (Mem.za7 h.row ⟨X2, 0, none⟩ u0 (by show X2 < B; omega)) ⟨X2, 1, none⟩ u1 (by show X2 < B; omega)
 refine ⟨this.1, ?_⟩
 rcases this.2 with h0 | ⟨g, cap, cur, hv, hb, rest⟩
 ·exact .inl h0
 ·exact .inr ⟨g, cap, cur, hv, by omega, rest⟩
end yg9
end Go.Proofs.YtfdbokipgofcdaaGreatDoor

namespace Go.Proofs.YtfdbokipgofcdaaGreatDoor
open Go.RowKit
namespace Pl
structure Tr where
 a : Option Addr
 cap : Nat
 L : List Nd
def Tr.val (t : Tr) : Value := .slice t.a t.L.length t.cap
end Pl
namespace Mem
end Mem
end Go.Proofs.YtfdbokipgofcdaaGreatDoor

namespace Go.Proofs.YtfdbokipgofcdaaGreatDoor
open Go.RowKit
namespace Pl
structure It where
 m : Int
 t : Tr
def It.r (x : It) : Int × List Nd := (x.m, x.t.L)
end Pl
namespace Mem
def za6 (w : World) (a : Option Addr) (Is : List Pl.It) : Prop :=
 ∀ (i : Nat) x, Is[i]? = some x → (∃ b o, a = some ⟨b, o, none⟩ ∧ b < w.heap.size ∧ w.cell? ⟨b, o + i * 2, none⟩ = some (.int .i64 x.m) ∧ w.cell? ⟨b, o + i * 2 + 1, none⟩ = some x.t.val) ∧ zc2 w x.t.a x.t.L
theorem zc1 {w w' : World} {a : Option Addr} {Is : List Pl.It} (h : za6 w a Is) (b : Below w.heap.size w w') : za6 w' a Is := fun i t hi => by
 obtain ⟨⟨g, o, h1, h2, h3, h5⟩, h4⟩ := h i t hi
 exact ⟨⟨g, o, h1, Nat.lt_of_lt_of_le h2 b.size, (b.cell (p := ⟨g, _, none⟩) h2).trans h3, (b.cell (p := ⟨g, _, none⟩) h2).trans h5⟩, za8 h4 b⟩
theorem yj0 (w : World) (a : Option Addr) : za6 w a [] := fun i n hi => by simp at hi
theorem items_drop {w : World} {b o : Nat} {Is : List Pl.It} (k : Nat) (h : za6 w (some ⟨b, o, none⟩) Is) : za6 w (some ⟨b, o + k * 2, none⟩) (Is.drop k) := fun i t hi => by
 rw [List.getElem?_drop] at hi
 obtain ⟨⟨g, o', h1, h2, h3, h5⟩, h4⟩ := h _ t hi
 cases h1
 refine ⟨⟨b, _, rfl, h2, ?_, ?_⟩, h4⟩
 ·rw [show o + k * 2 + i * 2 = o + (k + i) * 2 by omega]; exact h3
 ·rw [show o + k * 2 + i * 2 + 1 = o + (k + i) * 2 + 1 by omega]; exact h5
def shifted (a a' : Option Addr) (k : Nat) (Is : List Pl.It) : Prop := Is.drop k = [] ∨ ∃ b o, a = some ⟨b, o, none⟩ ∧ a' = some ⟨b, o + k * 2, none⟩
theorem ys5 {w : World} {a a' : Option Addr} {k : Nat} {Is : List Pl.It} (h : za6 w a Is) (hs : shifted a a' k Is) : za6 w a' (Is.drop k) := by
 rcases hs with hs | ⟨b, o, rfl, rfl⟩
 ·rw [hs]; exact yj0 _ _
 ·exact items_drop k h
theorem yo7 {a a' a'' : Option Addr} {k j : Nat} {Is : List Pl.It} (h : shifted a a' k Is) (h' : shifted a' a'' j (Is.drop k)) : shifted a a'' (k + j) Is := by
 rcases h' with h' | ⟨b, o, e1, e2⟩
 ·rw [List.drop_drop] at h'; exact .inl h'
 ·rcases h with h | ⟨b1, o1, e3, e4⟩
  ·left; rw [← List.drop_drop, h, List.drop_nil]
  ·rw [e4] at e1
   cases e1
   exact .inr ⟨_, o1, e3, by rw [e2]; congr 2; omega⟩
end Mem
end Go.Proofs.YtfdbokipgofcdaaGreatDoor

