/- The walk of the program's LayersRight. -/
import Derived.Test.YtkfpfckmjgjanabDoorWOverI
namespace Go.Proofs.YtkfpfckmjgjanabDoor
open Go.RowKit Go.Maps
namespace WOverI
set_option maxRecDepth 100000 in
theorem right_any (a : Option Addr) (cap : Nat) (Ts : List Pl.Tr) (w : World) (hl : Ts.length ≤ 1048576) (hv : Mem.isTrees w a Ts) (hok : ∀ t ∈ Ts, t.L.length ≤ 1048576 ∧ ∀ n ∈ t.L, n.path.size ≤ 1048576 ∧ n.data.size ≤ 1048576)
    (r1 r2 r3 : TypeId) (x1 x2 x3 : Value) (hE : WNodesI.Errs w r1 r2 r3 x1 x2 x3) :
    Calls Tryd.prog 12 #[.agg #[.slice a Ts.length cap]] w fun e w' => e = .returned (.bool (Pl.layB (Ts.map (·.L)))) ∧ Below w.heap.size w w' := by
  have b0 : Below w.heap.size w (w.alloc (.cells #[.slice a Ts.length cap] 29)) := (Below.refl _ _).alloc (Nat.le_refl _) _
  have hz := hide (over_any a cap Ts _ hl (Mem.trees_call hv b0) hok _ _ _ _ _ _ (hE.call b0))
  clear hv hok hE
  generalize Pl.layB (Ts.map (·.L)) = V at hz ⊢
  go_enter Tryd.func12, Tryd.ntmps12
  go_wp2_with fail
  refine (unhide hz).mono ?_
  rintro e w1 ⟨h1, b1⟩
  have bb := b0.trans (b1.mono b0.size)
  clear b0 b1 hz
  rcases h1 with ⟨rfl, v, Bs, rfl, -⟩ | ⟨rfl, rfl⟩
  · go_wp2
    go_ret
    exact ⟨rfl, bb⟩
  · go_wp2
    go_ret
    exact ⟨rfl, bb⟩
end WOverI
end Go.Proofs.YtkfpfckmjgjanabDoor
