/- The walk of the law FnExactPutNum, over the walks of the two functions. -/
import Derived.Test.YtopipjfomnnjcaeWNum
namespace Go.Proofs.Ytopipjfomnnjcae
open Go.RowKit
namespace fnExactPutNum
theorem walk (a0 : Int) (w : World) (w0 : (Lit.int .i64 a0).wf = true) :
    Calls Try.prog 3 #[.int .i64 a0] w fun e w' => e = .returned (.bool true) ∧ Below w.heap.size w w' := by
  obtain ⟨h1, h2⟩ := i64_of_wf w0
  go_enter Try.func3, Try.ntmps3
  go_wp2_with fail
  refine (WNum.specPut a0 _ h1 h2).mono ?_
  rintro e w1 ⟨rfl, b1⟩
  go_wp2_with fail
  refine (WNum.implPut a0 _ h1 h2).mono ?_
  rintro e w2 ⟨rfl, b2⟩
  have b3 := b1.trans (b2.mono b1.size)
  clear b1 b2
  go_wp2
  go_ret
  exact ⟨rfl, b3⟩
end fnExactPutNum
end Go.Proofs.Ytopipjfomnnjcae
