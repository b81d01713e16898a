/- The walk of the program's NestRight. -/
import Derived.Test.YtjfnmfnjlacbeadDoorG27
namespace Go.Proofs.YtjfnmfnjlacbeadDoor
open Go.RowKit
namespace WNestI
set_option maxRecDepth 100000 in
theorem right_any (a : Option Addr) (cap : Nat) (Is : List Pl.It) (w : World) (hl : Is.length ≤ 1048576) (hcap : Is.length ≤ cap) (hv : Mem.isItems w a Is) (hok : ∀ x ∈ Is, x.t.L.length ≤ 1048576 ∧ ∀ n ∈ x.t.L, n.path.size ≤ 1048576 ∧ n.data.size ≤ 1048576)
    (r0 r1 r2 r3 : TypeId) (x0 x1 x2 x3 : Value) (hE : Errs4 w r0 r1 r2 r3 x0 x1 x2 x3) :
    Calls Tryd.prog 11 #[.slice a Is.length cap] w fun e w' => e = .returned (.bool (Pl.nest (Pl.rowO (Is.map Pl.It.r))).isSome) ∧ Below w.heap.size w w' := by
  have hz := hide (nest_any a cap Is w hl hcap hv hok _ _ _ _ _ _ _ _ hE)
  clear hv hok hE
  generalize Pl.nest (Pl.rowO (Is.map Pl.It.r)) = NN at hz ⊢
  go_enter Tryd.func11, Tryd.ntmps11
  go_wp2_with fail
  refine (unhide hz).mono ?_
  rintro e w1 ⟨h1, b1⟩
  clear hz
  rcases h1 with ⟨k, q, m, va, vcap, rfl, rfl, -⟩ | ⟨rfl, r, x, rfl⟩
  · go_wp2
    go_ret
    exact ⟨rfl, b1.alloc b1.size _⟩
  · go_wp2
    go_ret
    exact ⟨rfl, b1.alloc b1.size _⟩
end WNestI
end Go.Proofs.YtjfnmfnjlacbeadDoor
