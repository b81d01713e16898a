/- A variable of three cells through calls; bytes that came in through calls. -/
import Derived.Test.YtopipjfomnnjcaaWSrc
namespace Go.Proofs.Ytopipjfomnnjcaa
open Go.RowKit
namespace WSrc
theorem row_below {w w' : World} {a : Option Addr} {len cap : Nat} (h : RowB w w.heap.size a len cap) (hb : Below w.heap.size w w') : RowB w' w'.heap.size a len cap :=
  ⟨h.1, h.2.1, fun i hi => by
    obtain ⟨b, o, n, h1, h2, h3, h4⟩ := h.2.2 i hi
    exact ⟨b, o, n, h1, Nat.lt_of_lt_of_le h2 hb.size, h3, (hb.cell (p := ⟨b, o + i, none⟩) h2).trans h4⟩⟩
end WSrc
namespace Mem
/-- A variable of three cells. -/
def Var3 (w : World) (B : Nat) (x y z : Value) : Prop := w.cell? ⟨B, 0, none⟩ = some x ∧ w.cell? ⟨B, 1, none⟩ = some y ∧ w.cell? ⟨B, 2, none⟩ = some z
theorem var3_call {w w' : World} {B : Nat} {x y z : Value} (h : Var3 w B x y z) (b : Below w.heap.size w w') : Var3 w' B x y z := by
  have hB : B < w.heap.size := World.block_lt_of_cell? w ⟨B, 0, none⟩ h.1
  exact ⟨(b.cell (p := ⟨B, 0, none⟩) hB).trans h.1, (b.cell (p := ⟨B, 1, none⟩) hB).trans h.2.1, (b.cell (p := ⟨B, 2, none⟩) hB).trans h.2.2⟩
theorem var3_new (w : World) (x y z : Value) (T : TypeId) : Var3 (w.alloc (.cells #[x, y, z] T)) w.heap.size x y z := by
  refine ⟨?_, ?_, ?_⟩
  · rw [cell_of_row _ _ 0 _ T (0, 0) (heap_alloc_new w _)]; rfl
  · rw [cell_of_row _ _ 1 _ T (0, 0) (heap_alloc_new w _)]; rfl
  · rw [cell_of_row _ _ 2 _ T (0, 0) (heap_alloc_new w _)]; rfl
end Mem
namespace Mem
theorem keepS {w W W' : World} {B : Nat} {x y z : Value} (h : Below w.heap.size w W ∧ W.cell? ⟨B, 0, none⟩ = some x ∧ W.cell? ⟨B, 1, none⟩ = some y ∧ W.cell? ⟨B, 2, none⟩ = some z) (b : Below W.heap.size W W') :
    Below w.heap.size w W' ∧ W'.cell? ⟨B, 0, none⟩ = some x ∧ W'.cell? ⟨B, 1, none⟩ = some y ∧ W'.cell? ⟨B, 2, none⟩ = some z :=
  ⟨h.1.trans (b.mono h.1.size), Mem.var3_call h.2 b⟩
theorem startS {w W : World} {B : Nat} {x y z : Value} (h : Below w.heap.size w W) (v : Mem.Var3 W B x y z) :
    Below w.heap.size w W.drew ∧ W.drew.cell? ⟨B, 0, none⟩ = some x ∧ W.drew.cell? ⟨B, 1, none⟩ = some y ∧ W.drew.cell? ⟨B, 2, none⟩ = some z :=
  ⟨⟨h.os, h.tape, h.output, h.size, h.block⟩, v⟩
theorem keepSD {w W W' : World} {B : Nat} {x y z : Value} (h : Below w.heap.size w W ∧ W.cell? ⟨B, 0, none⟩ = some x ∧ W.cell? ⟨B, 1, none⟩ = some y ∧ W.cell? ⟨B, 2, none⟩ = some z) (b : Below W.drew.heap.size W.drew W') :
    Below w.heap.size w W' ∧ W'.cell? ⟨B, 0, none⟩ = some x ∧ W'.cell? ⟨B, 1, none⟩ = some y ∧ W'.cell? ⟨B, 2, none⟩ = some z :=
  keepS (W := W.drew) ⟨⟨h.1.os, h.1.tape, h.1.output, h.1.size, h.1.block⟩, h.2⟩ b
theorem keepT {w W W' : World} {B E : Nat} {x y z x' y' z' : Value} (h : Below w.heap.size w W ∧ W.cell? ⟨B, 0, none⟩ = some x ∧ W.cell? ⟨B, 1, none⟩ = some y ∧ W.cell? ⟨B, 2, none⟩ = some z ∧ W.cell? ⟨E, 0, none⟩ = some x' ∧ W.cell? ⟨E, 1, none⟩ = some y' ∧ W.cell? ⟨E, 2, none⟩ = some z') (b : Below W.heap.size W W') :
    Below w.heap.size w W' ∧ W'.cell? ⟨B, 0, none⟩ = some x ∧ W'.cell? ⟨B, 1, none⟩ = some y ∧ W'.cell? ⟨B, 2, none⟩ = some z ∧ W'.cell? ⟨E, 0, none⟩ = some x' ∧ W'.cell? ⟨E, 1, none⟩ = some y' ∧ W'.cell? ⟨E, 2, none⟩ = some z' :=
  have h1 := var3_call (w := W) (w' := W') ⟨h.2.1, h.2.2.1, h.2.2.2.1⟩ b
  ⟨h.1.trans (b.mono h.1.size), h1.1, h1.2.1, h1.2.2, var3_call h.2.2.2.2 b⟩
theorem startT {w W : World} {B E : Nat} {x y z x' y' z' : Value} (h : Below w.heap.size w W) (v : Var3 W B x y z) (u : Var3 W E x' y' z') :
    Below w.heap.size w W.drew ∧ W.drew.cell? ⟨B, 0, none⟩ = some x ∧ W.drew.cell? ⟨B, 1, none⟩ = some y ∧ W.drew.cell? ⟨B, 2, none⟩ = some z ∧ W.drew.cell? ⟨E, 0, none⟩ = some x' ∧ W.drew.cell? ⟨E, 1, none⟩ = some y' ∧ W.drew.cell? ⟨E, 2, none⟩ = some z' :=
  ⟨⟨h.os, h.tape, h.output, h.size, h.block⟩, v.1, v.2.1, v.2.2, u⟩
end Mem
end Go.Proofs.Ytopipjfomnnjcaa
