import Derived.Test.YtpggbphcbcogdaaGreatDoorTakeC
import Derived.Test.YtpggbphcbcogdaaGreatDoorPlainNest
import Derived.Test.YtpggbphcbcogdaaGreatDoorMemBlk
import Derived.Test.YtpggbphcbcogdaaGreatDoorProg
import Derived.WalkSpells
import Derived.Lib.OthersKept
import Derived.Laws.RangeAny
import Derived.Deep.Draws
import Derived.Deep.QuietTactic
import Derived.BigQuiet
import Derived.Deep.RegionHeld3
namespace Go.Proofs.YtpggbphcbcogdaaGreatDoor
open Go.RowKit
namespace zh4
set_option maxRecDepth 100000 in
theorem zs5 (k:Pl.Fo) (q:Option Nat) (m:Int) (a:Option Addr) (cap:Nat) (w:World):
  Calls Tryz.prog 76 #[.agg #[.map q, .int .i64 m, .slice a k.len cap]] w fun e w'=>e= .returned (.bool (decide (k.len=0)))∧Below w.heap.size w w':=by
 by_cases h:k.len=0
 ·have t:(k.len:Int)=0:=by omega
  go_enter Tryz.func76,Tryz.ntmps76
  go_wp2
  go_ret
  exact ⟨by simp [h],bE0⟩
 ·have t:¬ (k.len:Int)=0:=by omega
  go_enter Tryz.func76,Tryz.ntmps76
  go_wp2
  go_ret
  exact ⟨by simp [h],bE0⟩
end zh4
end Go.Proofs.YtpggbphcbcogdaaGreatDoor
