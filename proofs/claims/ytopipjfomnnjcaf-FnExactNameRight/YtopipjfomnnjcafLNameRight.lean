/- The walk of the law FnExactNameRight, over the walks of the two functions. -/
import Derived.Test.YtopipjfomnnjcafWName
namespace Go.Proofs.Ytopipjfomnnjcaf
open Go.RowKit
namespace fnExactNameRight
theorem walk (a0 : ByteArray) (w : World) (w0 : a0.size ≤ maxLen) :
    Calls Try.prog 4 #[.string a0] w fun e w' => e = .returned (.bool true) ∧ Below w.heap.size w w' := by
  have m0 := w0
  unfold maxLen at m0
  by_cases h : 1048576 < a0.size
  · go_enter Try.func4, Try.ntmps4
    go_wp2
    go_ret
    exact ⟨rfl, Below.refl _ _⟩
  · go_enter Try.func4, Try.ntmps4
    go_wp2_with (first | (go_at_call 10; refine (WName.spec_any a0 _ w0).mono ?_; rintro e w' ⟨rfl, rfl⟩) | (go_at_call 11; refine (WName.impl_any a0 _ w0).mono ?_; rintro e w' ⟨rfl, rfl⟩))
    go_ret
    exact ⟨rfl, Below.refl _ _⟩
end fnExactNameRight
end Go.Proofs.Ytopipjfomnnjcaf
