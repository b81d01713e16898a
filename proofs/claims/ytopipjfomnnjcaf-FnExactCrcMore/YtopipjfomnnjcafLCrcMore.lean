/- The walk of the law FnExactCrcMore, over the walks of the two functions. -/
import Derived.Test.YtopipjfomnnjcafWCrcS
namespace Go.Proofs.Ytopipjfomnnjcaf
open Go.RowKit
namespace fnExactCrcMore
theorem walk (a0 : Int) (a1 : ByteArray) (w : World) (_w0 : (Lit.int .i64 a0).wf = true) (w1 : a1.size ≤ maxLen) :
    Calls Try.prog 6 #[.int .i64 a0, .string a1] w fun e w' => e = .returned (.bool true) ∧ Below w.heap.size w w' := by
  have m0 := w1
  unfold maxLen at m0
  by_cases h : 1048576 < a1.size
  · go_enter Try.func6, Try.ntmps6
    go_wp2
    go_ret
    exact ⟨rfl, Below.refl _ _⟩
  · go_enter Try.func6, Try.ntmps6
    go_wp2_with (first | (go_at_call 14; refine (WCrc.specMore_any a0 a1 _ w1).mono ?_; rintro e w' ⟨rfl, rfl⟩) | (go_at_call 15; refine (WCrc.more_any a0 a1 _ w1).mono ?_; rintro e w' ⟨rfl, rfl⟩))
    go_ret
    exact ⟨rfl, Below.refl _ _⟩
end fnExactCrcMore
end Go.Proofs.Ytopipjfomnnjcaf
