/- The walk of the specification's l02Ill. -/
import Derived.Test.YtfjpbmacfcabaabGreatDoorPartB
import Derived.Test.YtfjpbmacfcabaabGreatDoorPartA
namespace Go.Proofs.YtfjpbmacfcabaabGreatDoor
open Go.RowKit
namespace WPathS
theorem ill_any (c : Int) (w : World) :
    Calls Tryz.prog 51 #[.int .i64 c] w fun e w' => e = .returned (.agg #[.string ⟨#[]⟩, .int .i64 0, .int .i64 c]) ∧ Below w.heap.size w w' := by
  go_enter Tryz.func51, Tryz.ntmps51
  go_wp2
  refine bodyPost_ret (v := .agg #[.string ⟨#[]⟩, .int .i64 0, .int .i64 c]) (by simp [results, Tryz.results51, go_sem]) rfl ⟨rfl, ?_⟩
  exact (Below.refl _ _).alloc (Nat.le_refl _) _

end WPathS
end Go.Proofs.YtfjpbmacfcabaabGreatDoor
