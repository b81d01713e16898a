import Derived.Test.YtpggbphcbcogdaaGreatDoorPlainWalk
namespace Go.Proofs.YtpggbphcbcogdaaGreatDoor
open Go.RowKit
namespace Pl
theorem zx0 {L:List Nd} {k:Fx} {p:ByteArray} {o:Option Nd} (h:fnX L k p=o) (h2:∀n,o=some n→n.kind=0):zc3 L k p=none:=by
 unfold zc3;rw [h];cases o with
 |none=>rfl
 |some n=>exact if_pos (h2 n rfl)
theorem zy2 {L:List Nd} {k:Fx} {p:ByteArray} {n:Nd} (h:fnX L k p=some n) (h2:¬n.kind=0):zc3 L k p=some (noMark n):=by
 unfold zc3;rw [h];exact if_neg h2
end Pl
namespace WWk
theorem ret6 {w W:World} (hb:Below w.heap.size w W) (hr:Mem.Blk W w.heap.size #[.string ⟨#[]⟩, .int .i64 0, .string ⟨#[]⟩, .int .i64 0, .int .i64 0, .int .i64 0] 44) (p:ByteArray) (k:Int) (d:ByteArray) (t m c:Int):
  Mem.Blk ((((((W.setCell ⟨w.heap.size,0,none⟩ (.string (p))).setCell ⟨w.heap.size,1,none⟩ (.int .i64 (k))).setCell ⟨w.heap.size,2,none⟩ (.string (d))).setCell ⟨w.heap.size,3,none⟩ (.int .i64 (t))).setCell ⟨w.heap.size,4,none⟩ (.int .i64 (m))).setCell ⟨w.heap.size,5,none⟩ (.int .i64 (c))) w.heap.size #[.string p, .int .i64 k, .string d, .int .i64 t, .int .i64 m, .int .i64 c] 44∧Below w.heap.size w ((((((W.setCell ⟨w.heap.size,0,none⟩ (.string (p))).setCell ⟨w.heap.size,1,none⟩ (.int .i64 (k))).setCell ⟨w.heap.size,2,none⟩ (.string (d))).setCell ⟨w.heap.size,3,none⟩ (.int .i64 (t))).setCell ⟨w.heap.size,4,none⟩ (.int .i64 (m))).setCell ⟨w.heap.size,5,none⟩ (.int .i64 (c))):=by
 refine ⟨?_,(((((hb.setCell (p:=⟨w.heap.size,0,none⟩) (Nat.le_refl _) _).setCell (p:=⟨w.heap.size,1,none⟩) (Nat.le_refl _) _).setCell (p:=⟨w.heap.size,2,none⟩) (Nat.le_refl _) _).setCell (p:=⟨w.heap.size,3,none⟩) (Nat.le_refl _) _).setCell (p:=⟨w.heap.size,4,none⟩) (Nat.le_refl _) _).setCell (p:=⟨w.heap.size,5,none⟩) (Nat.le_refl _) _⟩;have h2:=(((((hr.put 0 (.string p)).put 1 (.int .i64 k)).put 2 (.string d)).put 3 (.int .i64 t)).put 4 (.int .i64 m)).put 5 (.int .i64 c);simp only [List.setIfInBounds_toArray] at h2;exact h2
end WWk
end Go.Proofs.YtpggbphcbcogdaaGreatDoor
