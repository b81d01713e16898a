/- The specification's TreeRight, as the program's. -/
import Derived.Test.YtkfpfckmjgjanaaDoorWTreeS
namespace Go.Proofs.YtkfpfckmjgjanaaDoor
open Go.RowKit
namespace WTreeS
theorem right_tree (a : Option Addr) (cap : Nat) (L : List Pl.Nd) (w : World) (hl : L.length ≤ 1048576) (hv : Mem.isNodes w a L) (hok : ∀ n ∈ L, n.path.size ≤ 1048576 ∧ n.data.size ≤ 1048576) :
    Calls Tryd.prog 25 #[.agg #[.slice a L.length cap]] w fun e w' => e = .returned (.bool (Pl.treeB L)) ∧ Below w.heap.size w w' := by
  have h := right_any a cap L w hl hv hok
  rw [Pl.tree_same] at h
  exact h
end WTreeS
end Go.Proofs.YtkfpfckmjgjanaaDoor
