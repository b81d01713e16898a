/- The walk of the specification's l02Ill. -/
import Derived.Test.YthkfhjemcekpgaaGreatDoorPartB
import Derived.Test.YthkfhjemcekpgaaGreatDoorPartA
namespace Go.Proofs.YthkfhjemcekpgaaGreatDoor
open Go.RowKit
namespace WPathS
theorem ill_any (c : Int) (w : World) :
    Calls Tryz.prog 59 #[.int .i64 c] w fun e w' => e = .returned (.agg #[.string ⟨#[]⟩, .int .i64 0, .int .i64 c]) ∧ Below w.heap.size w w' := by
  go_enter Tryz.func59, Tryz.ntmps59
  go_wp2
  refine bodyPost_ret (v := .agg #[.string ⟨#[]⟩, .int .i64 0, .int .i64 c]) (by simp [results, Tryz.results59, go_sem]) rfl ⟨rfl, ?_⟩
  exact (Below.refl _ _).alloc (Nat.le_refl _) _

end WPathS
end Go.Proofs.YthkfhjemcekpgaaGreatDoor
