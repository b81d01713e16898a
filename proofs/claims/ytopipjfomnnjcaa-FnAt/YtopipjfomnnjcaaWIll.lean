/- The walk of the specification's l02Ill. -/
import Derived.Test.YtopipjfomnnjcaaWPathS
import Derived.Test.YtopipjfomnnjcaaPlainR
namespace Go.Proofs.Ytopipjfomnnjcaa
open Go.RowKit
namespace WPathS
theorem ill_any (c : Int) (w : World) :
    Calls Try.prog 62 #[.int .i64 c] w fun e w' => e = .returned (.agg #[.string ⟨#[]⟩, .int .i64 0, .int .i64 c]) ∧ Below w.heap.size w w' := by
  go_enter Try.func62, Try.ntmps62
  go_wp2
  refine bodyPost_ret (v := .agg #[.string ⟨#[]⟩, .int .i64 0, .int .i64 c]) (by simp [results, Try.results62, go_sem]) rfl ⟨rfl, ?_⟩
  exact (Below.refl _ _).alloc (Nat.le_refl _) _

end WPathS
end Go.Proofs.Ytopipjfomnnjcaa
