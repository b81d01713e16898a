/- The walk of the program's Leaves. -/
import Derived.Test.YtkgifofleilabaaDoorWNestN
import Derived.Test.YtkgifofleilabaaDoorWNestE
import Derived.Test.YtkgifofleilabaaDoorPartA
namespace Go.Proofs.YtkgifofleilabaaDoor
open Go.RowKit
namespace WNestI
set_option maxRecDepth 100000 in
theorem leaves_face (a : Option Addr) (cap : Nat) (Is : List Pl.It) (w : World) (hl : Is.length ≤ 1048576) (hcap : Is.length ≤ cap) (hv : Mem.isItems w a Is) (hok : ∀ x ∈ Is, x.t.L.length ≤ 1048576 ∧ ∀ n ∈ x.t.L, n.path.size ≤ 1048576 ∧ n.data.size ≤ 1048576)
    (r0 r1 r2 r3 : TypeId) (x0 x1 x2 x3 : Value) (hE : Errs4 w r0 r1 r2 r3 x0 x1 x2 x3) :
    Calls Tryd.prog 11 #[.slice a Is.length cap] w fun e w' => e = .returned (.int .i64 (Pl.leavesO (Pl.nest (Pl.rowO (Is.map Pl.It.r))))) ∧ Below w.heap.size w w' := by
  have hz := hide (nest_any a cap Is w hl hcap hv hok _ _ _ _ _ _ _ _ hE)
  have hsz : ∀ k, Pl.nest (Pl.rowO (Is.map Pl.It.r)) = some k → k.sz ≤ 12 := fun k h => Pl.nest_sz h
  have HZ := hide hsz
  clear hv hok hE hsz
  generalize Pl.nest (Pl.rowO (Is.map Pl.It.r)) = NN at hz HZ ⊢
  go_enter Tryd.func11, Tryd.ntmps11
  go_wp2_with fail
  refine (unhide hz).mono ?_
  rintro e w1 ⟨h1, b1⟩
  clear hz
  rcases h1 with ⟨k, q, m, va, vcap, rfl, rfl, hlay⟩ | ⟨rfl, r, x, rfl⟩
  · have bA : Below w1.heap.size w1 (w1.alloc (.cells #[.map q, .int .i64 m, .slice va k.len vcap] 50)) := (Below.refl _ _).alloc (Nat.le_refl _) _
    have bw := b1.trans (bA.mono b1.size)
    have hcall := hide (leaves_any _ 1000 (Nat.le_refl _) k q m _ _ (by have := unhide HZ k rfl; omega) (Mem.lay_call hlay bA))
    clear HZ hlay bA b1
    go_wp2_with fail
    refine (unhide hcall).mono ?_
    rintro e w2 ⟨rfl, b2⟩
    have bb := bw.trans (b2.mono bw.size)
    clear hcall b2 bw
    go_wp2
    go_ret
    exact ⟨rfl, bb⟩
  · go_wp2
    go_ret
    exact ⟨rfl, b1.alloc b1.size _⟩
end WNestI
end Go.Proofs.YtkgifofleilabaaDoor
