/- The walk of the law FnExactPathRight, over the walks of the two functions. -/
import Derived.Test.YtopipjfomnnjcagWSpecA
import Derived.Test.YtopipjfomnnjcagWParI
namespace Go.Proofs.Ytopipjfomnnjcag
open Go.RowKit
namespace fnExactPathRight
set_option maxRecDepth 100000 in
theorem walk (a0 : ByteArray) (w : World) (w0 : a0.size ≤ maxLen) :
    Calls Try.prog 4 #[.string a0] w fun e w' => e = .returned (.bool true) ∧ Below w.heap.size w w' := by
  have m0 := w0
  unfold maxLen at m0
  by_cases g0 : 1048576 < a0.size
  · go_enter Try.func4, Try.ntmps4
    go_wp2
    go_ret
    exact ⟨rfl, Below.refl _ _⟩
  have h0 : a0.size ≤ 1048576 := by omega
  have hs := hide (fun W => WPathS.right_one a0 W h0)
  have hi := hide (fun W => WPathI.right_any a0 W h0)
  generalize Pl.pathB a0 = V at hs hi
  go_enter Try.func4, Try.ntmps4
  go_wp2_with fail
  refine (unhide hs _).mono ?_
  rintro e w1 ⟨rfl, b1⟩
  go_wp2_with fail
  refine (unhide hi _).mono ?_
  rintro e w2 ⟨rfl, b2⟩
  have b3 := b1.trans (b2.mono b1.size)
  clear b1 b2
  cases V
  all_goals
    go_wp2
    go_ret
    exact ⟨rfl, b3⟩
end fnExactPathRight
end Go.Proofs.Ytopipjfomnnjcag
