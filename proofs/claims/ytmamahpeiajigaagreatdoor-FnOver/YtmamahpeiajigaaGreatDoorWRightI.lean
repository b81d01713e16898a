/- The walk of the program's PathRight, PathParent and PathBase. -/
import Derived.Test.YtmamahpeiajigaaGreatDoorWPathOf
namespace Go.Proofs.YtmamahpeiajigaaGreatDoor
open Go.RowKit
namespace WPathI
theorem right_any (s : ByteArray) (w : World) (hs : s.size ≤ 1048576) :
    Calls Tryz.prog 23 #[.string s] w fun e w' => e = .returned (.bool (Pl.pathB s)) ∧ Below w.heap.size w w' := by
  go_enter Tryz.func23, Tryz.ntmps23
  go_wp2_with fail
  refine (WNames.any s _ hs).mono ?_
  rintro e w1 ⟨v, rfl, hown, hb⟩
  clear hown
  go_wp2
  go_ret
  exact ⟨rfl, hb⟩
end WPathI
end Go.Proofs.YtmamahpeiajigaaGreatDoor
