import Derived.Below
import Derived.Test.YtpggbphcbcogdaaGreatDoorProg
import Derived.WalkKit
import Derived.WalkSpells
namespace Go.Proofs.YtpggbphcbcogdaaGreatDoor
open Go.RowKit
namespace zf3
set_option maxRecDepth 100000 in
theorem zk4 (x y:Int) (w:World):Calls Tryz.prog 68 #[.int .i64 x, .int .i64 y] w fun e w'=>e= .returned (.int .i64 (max x y))∧w'=w:=by
 by_cases h:y<x
 ·go_enter Tryz.func68,Tryz.ntmps68
  go_wp2
  go_ret
  exact ⟨by rw [show max x y=x by omega];rfl,rfl⟩
 ·go_enter Tryz.func68,Tryz.ntmps68
  go_wp2
  go_ret
  exact ⟨by rw [show max x y=y by omega];rfl,rfl⟩
end zf3
end Go.Proofs.YtpggbphcbcogdaaGreatDoor
