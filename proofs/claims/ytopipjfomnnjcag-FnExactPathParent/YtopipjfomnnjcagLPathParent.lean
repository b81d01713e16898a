/- The walk of the law FnExactPathParent, over the walks of the two functions. -/
import Derived.Test.YtopipjfomnnjcagWSpecA
import Derived.Test.YtopipjfomnnjcagWParI
namespace Go.Proofs.Ytopipjfomnnjcag
open Go.RowKit
namespace fnExactPathParent
set_option maxRecDepth 100000 in
theorem walk (a0 : ByteArray) (w : World) (w0 : a0.size ≤ maxLen) :
    Calls Try.prog 7 #[.string a0] w fun e w' => e = .returned (.bool true) ∧ Below w.heap.size w w' := by
  have m0 := w0
  unfold maxLen at m0
  by_cases g0 : 1048576 < a0.size
  · go_enter Try.func7, Try.ntmps7
    go_wp2
    go_ret
    exact ⟨rfl, Below.refl _ _⟩
  have h0 : a0.size ≤ 1048576 := by omega
  have hs := hide (fun W => WPathS.parentF_any a0 W h0)
  have hi := hide (fun W => WPathI.parent_any a0 W h0)
  generalize Pl.glue (Pl.namesR a0).dropLast = V at hs hi
  go_enter Try.func7, Try.ntmps7
  go_wp2_with fail
  refine (unhide hs _).mono ?_
  rintro e w1 ⟨rfl, b1⟩
  go_wp2_with fail
  refine (unhide hi _).mono ?_
  rintro e w2 ⟨rfl, b2⟩
  have b3 := b1.trans (b2.mono b1.size)
  clear b1 b2
  all_goals
    go_wp2
    go_ret
    exact ⟨rfl, b3⟩
end fnExactPathParent
end Go.Proofs.Ytopipjfomnnjcag
