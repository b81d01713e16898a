/- The specification's l01Max. -/
import Derived.Test.YtmmomfnejkjkjaaDoorPartA
import Derived.Test.YtmmomfnejkjkjaaDoorProg
import Derived.WalkKit
import Derived.WalkSpells
namespace Go.Proofs.YtmmomfnejkjkjaaDoor
open Go.RowKit
namespace WPick
set_option maxRecDepth 100000 in
theorem max_any (x y : Int) (w : World) : Calls Tryd.prog 111 #[.int .i64 x, .int .i64 y] w fun e w' => e = .returned (.int .i64 (max x y)) ∧ w' = w := by
  by_cases h : y < x
  · go_enter Tryd.func111, Tryd.ntmps111
    go_wp2
    go_ret
    exact ⟨by rw [show max x y = x by omega]; rfl, rfl⟩
  · go_enter Tryd.func111, Tryd.ntmps111
    go_wp2
    go_ret
    exact ⟨by rw [show max x y = y by omega]; rfl, rfl⟩
end WPick
end Go.Proofs.YtmmomfnejkjkjaaDoor
