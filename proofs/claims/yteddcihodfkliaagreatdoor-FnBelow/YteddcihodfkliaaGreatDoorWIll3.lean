/- The walk of the specification's l03Ill. -/
import Derived.Test.YteddcihodfkliaaGreatDoorPartA
import Derived.Test.YteddcihodfkliaaGreatDoorProg
import Derived.WalkKit
namespace Go.Proofs.YteddcihodfkliaaGreatDoor
open Go.RowKit
namespace WIll3
set_option maxRecDepth 100000 in
theorem ill_any (c : Int) (w : World) :
    Calls Tryz.prog 43 #[.int .i64 c] w fun e w' => e = .returned (.agg #[.slice none 0 0, .int .i64 c]) ∧ Below w.heap.size w w' := by
  have b0 : Below w.heap.size w (w.alloc (.cells #[.slice none 0 0, .int .i64 c] 31)) := (Below.refl _ _).alloc (Nat.le_refl _) _
  have HB := hide (fun o (a : Addr) v (h : w.heap.size ≤ a.block) (a2 : Addr) v2 (h2 : w.heap.size ≤ a2.block) => ((((Below.refl w.heap.size w).alloc (Nat.le_refl _) o).setCell h v).setCell h2 v2))
  clear b0
  go_enter Tryz.func43, Tryz.ntmps43
  go_wp2
  refine bodyPost_ret (v := .agg #[.slice none 0 0, .int .i64 c]) (by simp [results, Tryz.results43, go_sem]) rfl ⟨rfl, ?_⟩
  exact (Below.refl _ _).alloc (Nat.le_refl _) _
end WIll3
end Go.Proofs.YteddcihodfkliaaGreatDoor
