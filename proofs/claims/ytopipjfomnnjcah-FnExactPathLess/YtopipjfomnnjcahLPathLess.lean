/- The walk of the law FnExactPathLess, over the walks of the two functions. -/
import Derived.Test.YtopipjfomnnjcahWLessS
import Derived.Test.YtopipjfomnnjcahWLess
namespace Go.Proofs.Ytopipjfomnnjcah
open Go.RowKit
namespace fnExactPathLess
set_option maxRecDepth 100000 in
theorem walk (a0 a1 : ByteArray) (w : World) (w0 : a0.size ≤ maxLen) (w1 : a1.size ≤ maxLen) :
    Calls Try.prog 7 #[.string a0, .string a1] w fun e w' => e = .returned (.bool true) ∧ Below w.heap.size w w' := by
  have m0 := w0
  unfold maxLen at m0
  have m1 := w1
  unfold maxLen at m1
  by_cases g0 : 1048576 < a0.size
  · go_enter Try.func7, Try.ntmps7
    go_wp2
    go_ret
    exact ⟨rfl, Below.refl _ _⟩
  have h0 : a0.size ≤ 1048576 := by omega
  by_cases g1 : 1048576 < a1.size
  · go_enter Try.func7, Try.ntmps7
    go_wp2
    go_ret
    exact ⟨rfl, Below.refl _ _⟩
  have h1 : a1.size ≤ 1048576 := by omega
  have hs := hide (fun W => WPathS.lessF_any a0 a1 W h0 h1)
  have hi := hide (fun W => WLess.less_any a0 a1 W h0 h1)
  generalize (Pl.pathB a0 && Pl.pathB a1 && Pl.lessL (Pl.namesR a0) (Pl.namesR a1)) = V at hs hi
  go_enter Try.func7, Try.ntmps7
  go_wp2_with fail
  refine (unhide hs _).mono ?_
  rintro e w1 ⟨rfl, b1⟩
  go_wp2_with fail
  refine (unhide hi _).mono ?_
  rintro e w2 ⟨rfl, b2⟩
  have b3 := b1.trans (b2.mono b1.size)
  clear b1 b2
  cases V
  all_goals
    go_wp2
    go_ret
    exact ⟨rfl, b3⟩
end fnExactPathLess
end Go.Proofs.Ytopipjfomnnjcah
