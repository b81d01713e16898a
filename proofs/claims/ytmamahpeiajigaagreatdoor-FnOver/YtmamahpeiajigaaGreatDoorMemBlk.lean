/- A block of cells that stands in the heap: through calls, new blocks, appends and stores. No program in sight. -/
import Derived.Test.YtmamahpeiajigaaGreatDoorMemOwnN
namespace Go.Proofs.YtmamahpeiajigaaGreatDoor
open Go.RowKit
namespace Mem
def Blk (w : World) (X : Nat) (cs : Array Value) (T : TypeId) : Prop := w.heap[X]? = some (.cells cs T (0, 0))
theorem Blk.lt {w : World} {X : Nat} {cs : Array Value} {T : TypeId} (h : Blk w X cs T) : X < w.heap.size := (Array.getElem?_eq_some_iff.1 h).1
theorem Blk.cell {w : World} {X : Nat} {cs : Array Value} {T : TypeId} (h : Blk w X cs T) (k : Nat) : w.cell? ⟨X, k, none⟩ = cs[k]? := cell_of_row w X k cs T (0, 0) h
theorem Blk.fr {w : World} {X : Nat} {cs : Array Value} {T : TypeId} (h : Blk w X cs T) (k : Nat) : w.frozen? ⟨X, k, none⟩ = false := row_frozen h
theorem Blk.call {w w' : World} {X : Nat} {cs : Array Value} {T : TypeId} (h : Blk w X cs T) (b : Below w.heap.size w w') : Blk w' X cs T := (b.block _ h.lt).trans h
theorem Blk.below {w w' : World} {X B : Nat} {cs : Array Value} {T : TypeId} (h : Blk w X cs T) (b : Below B w w') (hX : X < B) : Blk w' X cs T := (b.block _ hX).trans h
theorem Blk.alloc {w : World} {X : Nat} {cs : Array Value} {T : TypeId} (h : Blk w X cs T) (o : Obj) : Blk (w.alloc o) X cs T := h.call ((Below.refl _ _).alloc (Nat.le_refl _) o)
theorem Blk.new (w : World) (cs : Array Value) (T : TypeId) : Blk (w.alloc (.cells cs T)) w.heap.size cs T := heap_alloc_new w _
theorem Blk.grown {w w' : World} {X : Nat} {cs : Array Value} {T : TypeId} {r : Option Nat} (h : Blk w X cs T) (g : w.grownBy w' r) (hr : some X ≠ r) : Blk w' X cs T := (g.block _ h.lt hr).trans h
theorem Blk.put {w : World} {X : Nat} {cs : Array Value} {T : TypeId} (h : Blk w X cs T) (k : Nat) (v : Value) : Blk (w.setCell ⟨X, k, none⟩ v) X (cs.setIfInBounds k v) T := heap_setCell_same w X k cs T v h
theorem Blk.far {w : World} {X : Nat} {cs : Array Value} {T : TypeId} (h : Blk w X cs T) (a : Addr) (v : Value) (ha : X ≠ a.block) : Blk (w.setCell a v) X cs T := (heap_setCell_other w a X v ha).trans h
theorem ownN_set {w : World} {B : Nat} {v : Value} {L : List Pl.Nd} (h : ownN w B v L) (a : Addr) (u : Value) (ha : a.block < B) : ownN (w.setCell a u) B v L := by
  refine ⟨h.1, ?_⟩
  rcases h.2 with h0 | ⟨g, cap, cur, hv, hb, hg, rest⟩
  · exact .inl h0
  · exact .inr ⟨g, cap, cur, hv, hb, (heap_setCell_other w a g u (by omega)).trans hg, rest⟩
theorem ownN_far {w : World} {B : Nat} {v : Value} {L : List Pl.Nd} (h : ownN w B v L) (a : Addr) (u : Value) (ha : ∀ g, v.ownBlock = some g → a.block ≠ g) : ownN (w.setCell a u) B v L := by
  refine ⟨h.1, ?_⟩
  rcases h.2 with h0 | ⟨g, cap, cur, rfl, hb, hg, rest⟩
  · exact .inl h0
  · exact .inr ⟨g, cap, cur, rfl, hb, (heap_setCell_other w a g u (fun e => ha g rfl e.symm)).trans hg, rest⟩
theorem ownN_alloc {w : World} {B : Nat} {v : Value} {L : List Pl.Nd} (h : ownN w B v L) (o : Obj) : ownN (w.alloc o) B v L := ownN_call h ((Below.refl _ _).alloc (Nat.le_refl _) o)
theorem ownN_lt {w : World} {B : Nat} {v : Value} {L : List Pl.Nd} (h : ownN w B v L) : ∀ g, v.ownBlock = some g → B ≤ g ∧ g < w.heap.size := fun g hg => World.ownsRow.lt h g hg
theorem ownN_nodes {w : World} {B n cap : Nat} {a : Option Addr} {L : List Pl.Nd} (h : ownN w B (.slice a n cap) L) : n = L.length ∧ isNodes w a L := by
  obtain ⟨a', cap', e, hn⟩ := ownN_is h
  injection e with e1 e2 e3
  subst e1 e2 e3
  exact ⟨rfl, hn⟩
theorem nodes_grown {w w' : World} {g o : Nat} {r : Option Nat} {L : List Pl.Nd} (h : isNodes w (some ⟨g, o, none⟩) L) (hg : w.grownBy w' r) (hr : some g ≠ r) : isNodes w' (some ⟨g, o, none⟩) L := fun i n hi => by
  obtain ⟨g', o', h1, h2, h3, h4, h5, h6, h7⟩ := h i n hi
  cases h1
  exact ⟨g, o, rfl, Nat.lt_of_lt_of_le h2 hg.size, hg.cell h3 hr, hg.cell h4 hr, hg.cell h5 hr, hg.cell h6 hr, hg.cell h7 hr⟩
theorem ownN_grown {w w' : World} {B : Nat} {v : Value} {r : Option Nat} {L : List Pl.Nd} (h : ownN w B v L) (hg : w.grownBy w' r) (hr : ∀ g, v.ownBlock = some g → some g ≠ r) : ownN w' B v L := by
  refine ⟨h.1, ?_⟩
  rcases h.2 with h0 | ⟨g, cap, cur, rfl, hb, hh, rest⟩
  · exact .inl h0
  · exact .inr ⟨g, cap, cur, rfl, hb, (hg.block g (Array.getElem?_eq_some_iff.1 hh).1 (hr g rfl)).trans hh, rest⟩
theorem grown_of_below {w w' : World} (b : Below w.heap.size w w') (r : Option Nat) : w.grownBy w' r := ⟨b.os, b.tape, b.output, b.size, fun j hj _ => b.block j hj⟩
theorem grown_trans {w v v' : World} {r : Option Nat} (h : w.grownBy v r) (h' : v.grownBy v' r) : w.grownBy v' r :=
  ⟨h'.os.trans h.os, h'.tape.trans h.tape, h'.output.trans h.output, Nat.le_trans h.size h'.size, fun j hj hne => (h'.block j (Nat.lt_of_lt_of_le hj h.size) hne).trans (h.block j hj hne)⟩
end Mem
end Go.Proofs.YtmamahpeiajigaaGreatDoor
