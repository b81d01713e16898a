/- A row of trees in memory. -/
import Derived.Test.YteddcihodfkliaaGreatDoorPartA
namespace Go.Proofs.YteddcihodfkliaaGreatDoor
open Go.RowKit
namespace Pl
/-- A tree as it lies: where its nodes are, how much room they have, and what they are. -/
structure Tr where
  a : Option Addr
  cap : Nat
  L : List Nd
def Tr.val (t : Tr) : Value := .slice t.a t.L.length t.cap
/-- Right layers: one to four, each a right tree. -/
def layB (Ts : List (List Nd)) : Bool := decide (1 ≤ Ts.length) && decide (Ts.length ≤ 4) && Ts.all treeB
end Pl
namespace Mem
def isTrees (w : World) (a : Option Addr) (Ts : List Pl.Tr) : Prop :=
  ∀ (i : Nat) t, Ts[i]? = some t → (∃ b o, a = some ⟨b, o, none⟩ ∧ b < w.heap.size ∧ w.cell? ⟨b, o + i, none⟩ = some t.val) ∧ isNodes w t.a t.L
theorem trees_call {w w' : World} {a : Option Addr} {Ts : List Pl.Tr} (h : isTrees w a Ts) (b : Below w.heap.size w w') : isTrees w' a Ts := fun i t hi => by
  obtain ⟨⟨g, o, h1, h2, h3⟩, h4⟩ := h i t hi
  exact ⟨⟨g, o, h1, Nat.lt_of_lt_of_le h2 b.size, (b.cell (p := ⟨g, _, none⟩) h2).trans h3⟩, nodes_call h4 b⟩
theorem trees_nil (w : World) (a : Option Addr) : isTrees w a [] := fun i n hi => by simp at hi
end Mem
end Go.Proofs.YteddcihodfkliaaGreatDoor
