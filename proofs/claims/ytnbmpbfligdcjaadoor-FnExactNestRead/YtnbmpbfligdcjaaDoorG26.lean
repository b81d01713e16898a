/- Several texts of one claim in one file: WReadK, MemTrees, MemItems. -/
import Derived.Test.YtnbmpbfligdcjaaDoorG20
import Derived.Test.YtnbmpbfligdcjaaDoorG10
import Derived.Test.YtnbmpbfligdcjaaDoorG06
import Derived.Test.YtnbmpbfligdcjaaDoorG03
/- What TreeRead keeps, in both: the result, the reader, the tree and its row. -/
namespace Go.Proofs.YtnbmpbfligdcjaaDoor
open Go.RowKit
namespace WReadK
structure Ks (w wr : World) (X2 X3 X4 B : Nat) (rc : Array Value) (RT : TypeId) (v : Value) (L : List Pl.Nd) : Prop where
  bel : Below w.heap.size w wr
  big : B ≤ wr.heap.size
  x2 : Mem.Blk wr X2 #[.slice none 0 0, .int .i64 0] 34
  x3 : Mem.Blk wr X3 rc RT
  x4 : Mem.Blk wr X4 #[v] 29
  row : Mem.ownN wr B v L
  l2 : w.heap.size ≤ X2 ∧ X2 < B
  l3 : w.heap.size ≤ X3 ∧ X3 < B
  l4 : w.heap.size ≤ X4 ∧ X4 < B
  n23 : X2 ≠ X3
  n24 : X2 ≠ X4
  n34 : X3 ≠ X4
theorem Ks.own {w wr : World} {X2 X3 X4 B : Nat} {rc : Array Value} {RT : TypeId} {v : Value} {L : List Pl.Nd} (h : Ks w wr X2 X3 X4 B rc RT v L) : ∀ g, v.ownBlock = some g → B ≤ g ∧ g < wr.heap.size := Mem.ownN_lt h.row
theorem Ks.read {w wr W : World} {X2 X3 X4 B : Nat} {rc rc' : Array Value} {RT : TypeId} {v : Value} {L : List Pl.Nd} (h : Ks w wr X2 X3 X4 B rc RT v L) (g : wr.grownBy W (some X3)) (hr : Mem.Blk W X3 rc' RT) : Ks w W X2 X3 X4 B rc' RT v L :=
  ⟨h.bel.grown g h.bel.size (fun k hk => by cases hk; exact h.l3.1), Nat.le_trans h.big g.size, h.x2.grown g (fun e => h.n23 (Option.some.inj e)), hr, h.x4.grown g (fun e => h.n34 (Option.some.inj e).symm),
    Mem.ownN_grown h.row g (fun k hk e => by cases e; have := (h.own _ hk).1; have := h.l3.2; omega), h.l2, h.l3, h.l4, h.n23, h.n24, h.n34⟩
theorem Ks.call {w wr W : World} {X2 X3 X4 B : Nat} {rc : Array Value} {RT : TypeId} {v : Value} {L : List Pl.Nd} (h : Ks w wr X2 X3 X4 B rc RT v L) (b : Below wr.heap.size wr W) : Ks w W X2 X3 X4 B rc RT v L :=
  ⟨h.bel.trans (b.mono h.bel.size), Nat.le_trans h.big b.size, h.x2.call b, h.x3.call b, h.x4.call b, Mem.ownN_call h.row b, h.l2, h.l3, h.l4, h.n23, h.n24, h.n34⟩
theorem Ks.alloc {w wr : World} {X2 X3 X4 B : Nat} {rc : Array Value} {RT : TypeId} {v : Value} {L : List Pl.Nd} (h : Ks w wr X2 X3 X4 B rc RT v L) (o : Obj) : Ks w (wr.alloc o) X2 X3 X4 B rc RT v L := h.call ((Below.refl _ _).alloc (Nat.le_refl _) o)
theorem Ks.set {w wr : World} {X2 X3 X4 B : Nat} {rc : Array Value} {RT : TypeId} {v : Value} {L : List Pl.Nd} (h : Ks w wr X2 X3 X4 B rc RT v L) (p : Addr) (u : Value) (hp : B ≤ p.block) (hv : v.ownBlock ≠ some p.block) : Ks w (wr.setCell p u) X2 X3 X4 B rc RT v L := by
  have h2 := h.l2
  have h3 := h.l3
  have h4 := h.l4
  exact ⟨h.bel.setCell (by omega) _, by simpa using h.big, h.x2.far _ _ (by omega), h.x3.far _ _ (by omega), h.x4.far _ _ (by omega), Mem.ownN_far h.row _ _ (fun g hg e => hv (by rw [hg, e])), h.l2, h.l3, h.l4, h.n23, h.n24, h.n34⟩
/-- One node more. -/
theorem Ks.put {w wr w4 : World} {X2 X3 X4 B : Nat} {rc : Array Value} {RT : TypeId} {v v' : Value} {L : List Pl.Nd} {n : Pl.Nd} {o : Obj} (h : Ks w wr X2 X3 X4 B rc RT v L)
    (own : w4.ownsRow B 57 5 v' (L.length + 1) (Pl.cellsN L ++ n.cs)) (gr : (wr.alloc o).grownBy w4 v.ownBlock) : Ks w (w4.setCell ⟨X4, 0, none⟩ v') X2 X3 X4 B rc RT v' (L ++ [n]) := by
  have h' := h.alloc o
  have h2 := h.l2
  have h3 := h.l3
  have h4 := h.l4
  have e5 : (w4.setCell ⟨X4, 0, none⟩ v').heap.size = w4.heap.size := by simp
  refine ⟨?_, ?_, ?_, ?_, ?_, ?_, h.l2, h.l3, h.l4, h.n23, h.n24, h.n34⟩
  · exact (h'.bel.grown gr h'.bel.size (fun k hk => by have := (h'.own k hk).1; omega)).setCell (by show w.heap.size ≤ X4; omega) _
  · have := gr.size; have := h'.big; omega
  · exact (h'.x2.grown gr (fun e => by have := (h'.own _ e.symm).1; omega)).far _ _ (by show X2 ≠ X4; exact h.n24)
  · exact (h'.x3.grown gr (fun e => by have := (h'.own _ e.symm).1; omega)).far _ _ (by show X3 ≠ X4; exact h.n34)
  · exact (h'.x4.grown gr (fun e => by have := (h'.own _ e.symm).1; omega)).put 0 v'
  · exact Mem.ownN_set (Mem.ownN_snoc own) _ _ (by show X4 < B; omega)
/-- The tree's cell, where the row has grown. -/
theorem Ks.mid {w wr w4 : World} {X2 X3 X4 B : Nat} {rc : Array Value} {RT : TypeId} {v : Value} {L : List Pl.Nd} {o : Obj} (h : Ks w wr X2 X3 X4 B rc RT v L) (gr : (wr.alloc o).grownBy w4 v.ownBlock) : Mem.Blk w4 X4 #[v] 29 :=
  (h.x4.alloc o).grown gr (fun e => by have := (h.own _ e.symm).1; have := h.l4; omega)
theorem Ks.done {w wr : World} {X2 X3 X4 B : Nat} {rc : Array Value} {RT : TypeId} {v : Value} {L : List Pl.Nd} (h : Ks w wr X2 X3 X4 B rc RT v L) (u0 u1 : Value) : Mem.ownN ((wr.setCell ⟨X2, 0, none⟩ u0).setCell ⟨X2, 1, none⟩ u1) w.heap.size v L ∧ Below w.heap.size w ((wr.setCell ⟨X2, 0, none⟩ u0).setCell ⟨X2, 1, none⟩ u1) := by
  have h2 := h.l2
  refine ⟨?_, (h.bel.setCell (by show w.heap.size ≤ X2; omega) _).setCell (by show w.heap.size ≤ X2; omega) _⟩
  have := Mem.ownN_set (Mem.ownN_set h.row ⟨X2, 0, none⟩ u0 (by show X2 < B; omega)) ⟨X2, 1, none⟩ u1 (by show X2 < B; omega)
  refine ⟨this.1, ?_⟩
  rcases this.2 with h0 | ⟨g, cap, cur, hv, hb, rest⟩
  · exact .inl h0
  · exact .inr ⟨g, cap, cur, hv, by omega, rest⟩
theorem own_none (w : World) : Mem.ownN w w.heap.size (.slice none 0 0) [] := Mem.ownN_nil _ _
end WReadK
end Go.Proofs.YtnbmpbfligdcjaaDoor

/- A row of trees in memory. -/
namespace Go.Proofs.YtnbmpbfligdcjaaDoor
open Go.RowKit
namespace Pl
/-- A tree as it lies: where its nodes are, how much room they have, and what they are. -/
structure Tr where
  a : Option Addr
  cap : Nat
  L : List Nd
def Tr.val (t : Tr) : Value := .slice t.a t.L.length t.cap
/-- Right layers: one to four, each a right tree. -/
def layB (Ts : List (List Nd)) : Bool := decide (1 ≤ Ts.length) && decide (Ts.length ≤ 4) && Ts.all treeB
end Pl
namespace Mem
def isTrees (w : World) (a : Option Addr) (Ts : List Pl.Tr) : Prop :=
  ∀ (i : Nat) t, Ts[i]? = some t → (∃ b o, a = some ⟨b, o, none⟩ ∧ b < w.heap.size ∧ w.cell? ⟨b, o + i, none⟩ = some t.val) ∧ isNodes w t.a t.L
theorem trees_call {w w' : World} {a : Option Addr} {Ts : List Pl.Tr} (h : isTrees w a Ts) (b : Below w.heap.size w w') : isTrees w' a Ts := fun i t hi => by
  obtain ⟨⟨g, o, h1, h2, h3⟩, h4⟩ := h i t hi
  exact ⟨⟨g, o, h1, Nat.lt_of_lt_of_le h2 b.size, (b.cell (p := ⟨g, _, none⟩) h2).trans h3⟩, nodes_call h4 b⟩
theorem trees_nil (w : World) (a : Option Addr) : isTrees w a [] := fun i n hi => by simp at hi
end Mem
end Go.Proofs.YtnbmpbfligdcjaaDoor

/- A row of items in memory: each a number and a tree. -/
namespace Go.Proofs.YtnbmpbfligdcjaaDoor
open Go.RowKit
namespace Pl
/-- An item as it lies: its number, and its tree. -/
structure It where
  m : Int
  t : Tr
/-- An item as it reads. -/
def It.r (x : It) : Int × List Nd := (x.m, x.t.L)
end Pl
namespace Mem
def isItems (w : World) (a : Option Addr) (Is : List Pl.It) : Prop :=
  ∀ (i : Nat) x, Is[i]? = some x → (∃ b o, a = some ⟨b, o, none⟩ ∧ b < w.heap.size ∧ w.cell? ⟨b, o + i * 2, none⟩ = some (.int .i64 x.m) ∧ w.cell? ⟨b, o + i * 2 + 1, none⟩ = some x.t.val) ∧ isNodes w x.t.a x.t.L
theorem items_call {w w' : World} {a : Option Addr} {Is : List Pl.It} (h : isItems w a Is) (b : Below w.heap.size w w') : isItems w' a Is := fun i t hi => by
  obtain ⟨⟨g, o, h1, h2, h3, h5⟩, h4⟩ := h i t hi
  exact ⟨⟨g, o, h1, Nat.lt_of_lt_of_le h2 b.size, (b.cell (p := ⟨g, _, none⟩) h2).trans h3, (b.cell (p := ⟨g, _, none⟩) h2).trans h5⟩, nodes_call h4 b⟩
theorem items_nil (w : World) (a : Option Addr) : isItems w a [] := fun i n hi => by simp at hi
theorem items_drop {w : World} {b o : Nat} {Is : List Pl.It} (k : Nat) (h : isItems w (some ⟨b, o, none⟩) Is) : isItems w (some ⟨b, o + k * 2, none⟩) (Is.drop k) := fun i t hi => by
  rw [List.getElem?_drop] at hi
  obtain ⟨⟨g, o', h1, h2, h3, h5⟩, h4⟩ := h _ t hi
  cases h1
  refine ⟨⟨b, _, rfl, h2, ?_, ?_⟩, h4⟩
  · rw [show o + k * 2 + i * 2 = o + (k + i) * 2 by omega]; exact h3
  · rw [show o + k * 2 + i * 2 + 1 = o + (k + i) * 2 + 1 by omega]; exact h5
/-- A place so many items further on in the same row. -/
def shifted (a a' : Option Addr) (k : Nat) (Is : List Pl.It) : Prop := Is.drop k = [] ∨ ∃ b o, a = some ⟨b, o, none⟩ ∧ a' = some ⟨b, o + k * 2, none⟩
theorem items_shift {w : World} {a a' : Option Addr} {k : Nat} {Is : List Pl.It} (h : isItems w a Is) (hs : shifted a a' k Is) : isItems w a' (Is.drop k) := by
  rcases hs with hs | ⟨b, o, rfl, rfl⟩
  · rw [hs]; exact items_nil _ _
  · exact items_drop k h
theorem shifted_trans {a a' a'' : Option Addr} {k j : Nat} {Is : List Pl.It} (h : shifted a a' k Is) (h' : shifted a' a'' j (Is.drop k)) : shifted a a'' (k + j) Is := by
  rcases h' with h' | ⟨b, o, e1, e2⟩
  · rw [List.drop_drop] at h'; exact .inl h'
  · rcases h with h | ⟨b1, o1, e3, e4⟩
    · left; rw [← List.drop_drop, h, List.drop_nil]
    · rw [e4] at e1
      cases e1
      exact .inr ⟨_, o1, e3, by rw [e2]; congr 2; omega⟩
end Mem
end Go.Proofs.YtnbmpbfligdcjaaDoor

