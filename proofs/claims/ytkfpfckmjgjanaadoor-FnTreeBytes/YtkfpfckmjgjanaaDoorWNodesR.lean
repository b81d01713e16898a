/- The walk of the program's TreeRight. -/
import Derived.Test.YtkfpfckmjgjanaaDoorG08
namespace Go.Proofs.YtkfpfckmjgjanaaDoor
open Go.RowKit Go.Maps
namespace WNodesI
set_option maxRecDepth 100000 in
theorem treeRight_any (a : Option Addr) (cap : Nat) (L : List Pl.Nd) (w : World) (hl : L.length ≤ 1048576) (hv : Mem.isNodes w a L) (hok : ∀ n ∈ L, n.path.size ≤ 1048576 ∧ n.data.size ≤ 1048576)
    (r1 r2 r3 : TypeId) (x1 x2 x3 : Value) (hE : Errs w r1 r2 r3 x1 x2 x3) :
    Calls Tryd.prog 46 #[.agg #[.slice a L.length cap]] w fun e w' => e = .returned (.bool (Pl.treeB L)) ∧ Below w.heap.size w w' := by
  have b0 : Below w.heap.size w (w.alloc (.cells #[.slice a L.length cap] 32)) := (Below.refl _ _).alloc (Nat.le_refl _) _
  have hn := hide (nodes_any a cap L _ hl (Mem.nodes_call hv b0) hok r1 r2 r3 x1 x2 x3 (hE.call b0))
  clear hv hok hE
  generalize Pl.treeB L = R at hn ⊢
  go_enter Tryd.func46, Tryd.ntmps46
  go_wp2_with fail
  refine (unhide hn).mono ?_
  rintro e w1 ⟨h1, b1⟩
  have b2 := b0.trans (b1.mono b0.size)
  clear hn b0 b1
  rcases h1 with ⟨rfl, B, rfl, -, -⟩ | ⟨rfl, rfl⟩
  · go_wp2
    go_ret
    exact ⟨rfl, b2⟩
  · go_wp2
    go_ret
    exact ⟨rfl, b2⟩
end WNodesI
end Go.Proofs.YtkfpfckmjgjanaaDoor
