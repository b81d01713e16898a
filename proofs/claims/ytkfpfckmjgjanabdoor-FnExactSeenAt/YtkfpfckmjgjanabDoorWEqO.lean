/- The walk of eqNodeOut. -/
import Derived.Test.YtkfpfckmjgjanabDoorG19
namespace Go.Proofs.YtkfpfckmjgjanabDoor
open Go.RowKit
namespace WGetT
set_option maxRecDepth 100000 in
theorem eqO_any (n : Pl.Nd) (c : Int) (w : World) :
    Calls Tryd.prog 25 #[.agg #[.string n.path, .int .i64 n.kind, .string n.data, .int .i64 n.time, .int .i64 n.mark, .int .i64 c], .agg #[.string n.path, .int .i64 n.kind, .string n.data, .int .i64 n.time, .int .i64 n.mark, .int .i64 c]] w fun e w' => e = .returned (.bool true) ∧ Below w.heap.size w w' := by
  have b0 : Below w.heap.size w ((w.alloc (.cells #[.string n.path, .int .i64 n.kind, .string n.data, .int .i64 n.time, .int .i64 n.mark, .int .i64 c] 52)).alloc (.cells #[.string n.path, .int .i64 n.kind, .string n.data, .int .i64 n.time, .int .i64 n.mark, .int .i64 c] 52)) := ((Below.refl _ _).alloc (Nat.le_refl _) _).alloc (by simp) _
  have va := Mem.var_alloc (Mem.var_new w [.string n.path, .int .i64 n.kind, .string n.data, .int .i64 n.time, .int .i64 n.mark, .int .i64 c] 52) (.cells #[.string n.path, .int .i64 n.kind, .string n.data, .int .i64 n.time, .int .i64 n.mark, .int .i64 c] 52)
  have vb := Mem.var_new (w.alloc (.cells #[.string n.path, .int .i64 n.kind, .string n.data, .int .i64 n.time, .int .i64 n.mark, .int .i64 c] 52)) [.string n.path, .int .i64 n.kind, .string n.data, .int .i64 n.time, .int .i64 n.mark, .int .i64 c] 52
  rw [show (w.alloc (.cells #[.string n.path, .int .i64 n.kind, .string n.data, .int .i64 n.time, .int .i64 n.mark, .int .i64 c] 52)).heap.size = w.heap.size + 1 by simp] at vb
  have he := hide (fun W => WLaw.eqNode_any n W)
  simp only [Pl.Nd.val] at he
  go_enter Tryd.func25, Tryd.ntmps25
  go_wp2_with fail
  refine (unhide he _).mono ?_
  rintro e w1 ⟨rfl, b1⟩
  have bw1 := b0.trans (b1.mono b0.size)
  have c5 := (Mem.var_call va b1).2 5 _ rfl
  have d5 := (Mem.var_call vb b1).2 5 _ rfl
  clear he va vb b0 b1
  go_wp2
  go_ret
  exact ⟨rfl, bw1⟩
end WGetT
end Go.Proofs.YtkfpfckmjgjanabDoor
