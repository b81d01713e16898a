/- The code of any of the six errors, and of none. -/
import Derived.Test.YtibmflhelgedeaaGreatDoorG08
namespace Go.Proofs.YtibmflhelgedeaaGreatDoor
open Go.RowKit
namespace WCutF
theorem code_any (x : Nat → Addr) (w : World) (h : WIs.Six w x) (i : Nat) (hi : i < 6) :
    Calls Tryz.prog 77 #[.iface 248 (.pointer (some (x i)))] w fun e w' => e = .returned (.int .i64 (WIs.codeOf i)) ∧ w' = w := by
  obtain rfl | rfl | rfl | rfl | rfl | rfl : i = 0 ∨ i = 1 ∨ i = 2 ∨ i = 3 ∨ i = 4 ∨ i = 5 := by omega
  · exact WIs.code0 x w h
  · exact WIs.code1 x w h
  · exact WIs.code2 x w h
  · exact WIs.code3 x w h
  · exact WIs.code4 x w h
  · exact WIs.code5 x w h
theorem code_pos (i : Nat) : WIs.codeOf i ≠ 0 := by
  unfold WIs.codeOf
  split <;> decide
set_option maxRecDepth 100000 in
theorem code_nil (w : World) : Calls Tryz.prog 77 #[.nilIface] w fun e w' => e = .returned (.int .i64 0) ∧ w' = w := by
  go_enter Tryz.func77, Tryz.ntmps77
  go_wp2
  go_ret
  exact ⟨rfl, rfl⟩
end WCutF
end Go.Proofs.YtibmflhelgedeaaGreatDoor
