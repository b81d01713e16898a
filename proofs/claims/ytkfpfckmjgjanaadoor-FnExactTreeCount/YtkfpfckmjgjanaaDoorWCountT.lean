/- The walks of TreeCount, of the program and of the specification. -/
import Derived.Test.YtkfpfckmjgjanaaDoorWNodesR
import Derived.Test.YtkfpfckmjgjanaaDoorWTreeR
import Derived.Test.YtkfpfckmjgjanaaDoorG08
namespace Go.Proofs.YtkfpfckmjgjanaaDoor
open Go.RowKit
namespace Pl
def cntT (L : List Nd) : Int := if treeB L then (L.length : Int) else 0
end Pl
namespace WCountT
set_option maxRecDepth 100000 in
theorem spec_any (a : Option Addr) (cap : Nat) (L : List Pl.Nd) (w : World) (hl : L.length ≤ 1048576) (hv : Mem.isNodes w a L) (hok : ∀ n ∈ L, n.path.size ≤ 1048576 ∧ n.data.size ≤ 1048576) :
    Calls Tryd.prog 32 #[.agg #[.slice a L.length cap]] w fun e w' => e = .returned (.int .i64 (Pl.cntT L)) ∧ Below w.heap.size w w' := by
  have b0 : Below w.heap.size w (w.alloc (.cells #[.slice a L.length cap] 32)) := (Below.refl _ _).alloc (Nat.le_refl _) _
  have hr := hide (WTreeS.right_tree a cap L _ hl (Mem.nodes_call hv b0) hok)
  have hvar := Mem.var_new w [.slice a L.length cap] 32
  have E : Hid (Pl.cntT L = if Pl.treeB L then (L.length : Int) else 0) := rfl
  generalize Pl.cntT L = R at E ⊢
  generalize Pl.treeB L = R2 at E hr
  clear hv hok
  go_enter Tryd.func32, Tryd.ntmps32
  go_wp2_with fail
  refine (unhide hr).mono ?_
  rintro e w1 ⟨rfl, b1⟩
  have b2 := b0.trans (b1.mono b0.size)
  have c0 := (Mem.var_call hvar b1).2 0 _ rfl
  clear hvar hr b0 b1
  cases R2
  · go_wp2
    go_ret
    exact ⟨by rw [unhide E]; rfl, b2⟩
  · go_wp2
    go_ret
    exact ⟨by rw [unhide E]; rfl, b2⟩
set_option maxRecDepth 100000 in
theorem impl_any (a : Option Addr) (cap : Nat) (L : List Pl.Nd) (w : World) (hl : L.length ≤ 1048576) (hv : Mem.isNodes w a L) (hok : ∀ n ∈ L, n.path.size ≤ 1048576 ∧ n.data.size ≤ 1048576)
    (r1 r2 r3 : TypeId) (x1 x2 x3 : Value) (hE : WNodesI.Errs w r1 r2 r3 x1 x2 x3) :
    Calls Tryd.prog 33 #[.agg #[.slice a L.length cap]] w fun e w' => e = .returned (.int .i64 (Pl.cntT L)) ∧ Below w.heap.size w w' := by
  have b0 : Below w.heap.size w (w.alloc (.cells #[.slice a L.length cap] 32)) := (Below.refl _ _).alloc (Nat.le_refl _) _
  have hr := hide (WNodesI.treeRight_any a cap L _ hl (Mem.nodes_call hv b0) hok r1 r2 r3 x1 x2 x3 (hE.call b0))
  have hvar := Mem.var_new w [.slice a L.length cap] 32
  have E : Hid (Pl.cntT L = if Pl.treeB L then (L.length : Int) else 0) := rfl
  generalize Pl.cntT L = R at E ⊢
  generalize Pl.treeB L = R2 at E hr
  clear hv hok hE
  go_enter Tryd.func33, Tryd.ntmps33
  go_wp2_with fail
  refine (unhide hr).mono ?_
  rintro e w1 ⟨rfl, b1⟩
  have b2 := b0.trans (b1.mono b0.size)
  have c0 := (Mem.var_call hvar b1).2 0 _ rfl
  clear hvar hr b0 b1
  cases R2
  · go_wp2
    go_ret
    exact ⟨by rw [unhide E]; rfl, b2⟩
  · go_wp2
    go_ret
    exact ⟨by rw [unhide E]; rfl, b2⟩
end WCountT
end Go.Proofs.YtkfpfckmjgjanaaDoor
