/- The walk of the specification's LevelOf. -/
import Derived.Test.YtjfnmfnjlacbeadDoorG36
namespace Go.Proofs.YtjfnmfnjlacbeadDoor
open Go.RowKit
namespace WNestS
set_option maxRecDepth 100000 in
theorem level_any (a : Option Addr) (cap : Nat) (Is : List Pl.It) (w : World) (hl : Is.length ≤ 1048576) (hv : Mem.isItems w a Is) (hok : ∀ x ∈ Is, x.t.L.length ≤ 1048576 ∧ ∀ n ∈ x.t.L, n.path.size ≤ 1048576 ∧ n.data.size ≤ 1048576) :
    Calls Tryd.prog 19 #[.slice a Is.length cap] w fun e w' => e = .returned (.int .i64 (Pl.levelO (Pl.nest (Pl.rowO (Is.map Pl.It.r))))) ∧ Below w.heap.size w w' := by
  have hz := hide (firstLeaf_any a cap Is w hl hv hok)
  clear hv hok
  generalize Pl.levelO (Pl.nest (Pl.rowO (Is.map Pl.It.r))) = V at hz ⊢
  go_enter Tryd.func19, Tryd.ntmps19
  go_wp2_with fail
  refine (unhide hz).mono ?_
  rintro e w1 ⟨rfl, b1⟩
  clear hz
  go_wp2
  go_ret
  exact ⟨rfl, b1⟩
end WNestS
end Go.Proofs.YtjfnmfnjlacbeadDoor
