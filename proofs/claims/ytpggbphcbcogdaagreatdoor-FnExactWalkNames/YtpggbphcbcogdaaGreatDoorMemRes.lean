import Derived.Test.YtpggbphcbcogdaaGreatDoorMem
namespace Go.Proofs.YtpggbphcbcogdaaGreatDoor
open Go.RowKit
namespace Mem
structure Res (w w':World):Prop where
 heap:w'.heap[w.heap.size]? =some (.cells #[.string ⟨#[]⟩, .int .i64 0, .int .i64 0] 93 (0,0))
 bel:Below w.heap.size w w'
theorem Res.start (w:World):Res w (w.alloc (.cells #[.string ⟨#[]⟩, .int .i64 0, .int .i64 0] 93)):=⟨heap_alloc_new w _,(Below.refl _ _).alloc (Nat.le_refl _) _⟩
theorem Res.lt {w w':World} (h:Res w w'):w.heap.size<w'.heap.size:=(Array.getElem?_eq_some_iff.1 h.heap).1
theorem Res.below {w w1 w2:World} {B:Nat} (h:Res w w1) (hb:Below B w1 w2) (hB:w.heap.size<B):Res w w2:=
 ⟨(hb.block _ hB).trans h.heap,h.bel.trans (hb.mono (Nat.le_of_lt hB))⟩
theorem Res.call {w w1 w2:World} (h:Res w w1) (hb:Below w1.heap.size w1 w2):Res w w2:=h.below hb h.lt
theorem Res.cells {w w':World} (h:Res w w'):(w'.cell? ⟨w.heap.size,0,none⟩=some (.string ⟨#[]⟩)∧w'.cell? ⟨w.heap.size,1,none⟩=some (.int .i64 0)∧w'.cell? ⟨w.heap.size,2,none⟩=some (.int .i64 0))∧
  (w'.frozen? ⟨w.heap.size,0,none⟩=false∧w'.frozen? ⟨w.heap.size,1,none⟩=false∧w'.frozen? ⟨w.heap.size,2,none⟩=false):=by
 refine ⟨⟨?_,?_,?_⟩,⟨zd5 h.heap,zd5 h.heap,zd5 h.heap⟩⟩
 ·rw [cell_of_row w' _ 0 _ _ (0,0) h.heap];rfl
 ·rw [cell_of_row w' _ 1 _ _ (0,0) h.heap];rfl
 ·rw [cell_of_row w' _ 2 _ _ (0,0) h.heap];rfl
end Mem
end Go.Proofs.YtpggbphcbcogdaaGreatDoor
