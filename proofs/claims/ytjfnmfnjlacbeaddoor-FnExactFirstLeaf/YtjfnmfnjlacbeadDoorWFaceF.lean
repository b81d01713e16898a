/- The walk of the program's FirstLeaf. -/
import Derived.Test.YtjfnmfnjlacbeadDoorG36
namespace Go.Proofs.YtjfnmfnjlacbeadDoor
open Go.RowKit
namespace WNestI
set_option maxRecDepth 100000 in
theorem first_face (a : Option Addr) (cap : Nat) (Is : List Pl.It) (w : World) (hl : Is.length ≤ 1048576) (hcap : Is.length ≤ cap) (hv : Mem.isItems w a Is) (hok : ∀ x ∈ Is, x.t.L.length ≤ 1048576 ∧ ∀ n ∈ x.t.L, n.path.size ≤ 1048576 ∧ n.data.size ≤ 1048576)
    (r0 r1 r2 r3 : TypeId) (x0 x1 x2 x3 : Value) (hE : Errs4 w r0 r1 r2 r3 x0 x1 x2 x3) :
    Calls Tryd.prog 18 #[.slice a Is.length cap] w fun e w' => e = .returned (.int .i64 (Pl.levelO (Pl.nest (Pl.rowO (Is.map Pl.It.r))))) ∧ Below w.heap.size w w' := by
  have hz := hide (level_face a cap Is w hl hcap hv hok _ _ _ _ _ _ _ _ hE)
  clear hv hok hE
  generalize Pl.levelO (Pl.nest (Pl.rowO (Is.map Pl.It.r))) = V at hz ⊢
  go_enter Tryd.func18, Tryd.ntmps18
  go_wp2_with fail
  refine (unhide hz).mono ?_
  rintro e w1 ⟨rfl, b1⟩
  clear hz
  go_wp2
  go_ret
  exact ⟨rfl, b1⟩
end WNestI
end Go.Proofs.YtjfnmfnjlacbeadDoor
