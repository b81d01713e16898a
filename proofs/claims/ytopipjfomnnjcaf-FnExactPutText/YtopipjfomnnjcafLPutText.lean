/- The walk of the law FnExactPutText, over the walks of the two functions. -/
import Derived.Test.YtopipjfomnnjcafWText
namespace Go.Proofs.Ytopipjfomnnjcaf
open Go.RowKit
namespace fnExactPutText
theorem walk (a0 : ByteArray) (w : World) (w0 : a0.size ≤ maxLen) :
    Calls Try.prog 3 #[.string a0] w fun e w' => e = .returned (.bool true) ∧ Below w.heap.size w w' := by
  have m0 := w0
  unfold maxLen at m0
  by_cases h : 1048576 < a0.size
  · go_enter Try.func3, Try.ntmps3
    go_wp2
    go_ret
    exact ⟨rfl, Below.refl _ _⟩
  · go_enter Try.func3, Try.ntmps3
    go_wp2_with fail
    refine (WText.spec_any a0 _ w0).mono ?_
    rintro e w1 ⟨rfl, b1⟩
    go_wp2_with fail
    refine (WText.impl_any a0 _ w0).mono ?_
    rintro e w2 ⟨rfl, b2⟩
    have b3 := b1.trans (b2.mono b1.size)
    clear b1 b2
    go_wp2
    go_ret
    exact ⟨rfl, b3⟩
end fnExactPutText
end Go.Proofs.Ytopipjfomnnjcaf
