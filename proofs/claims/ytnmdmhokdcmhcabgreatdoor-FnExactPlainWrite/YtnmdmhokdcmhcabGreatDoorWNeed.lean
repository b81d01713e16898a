/- need: it goes on only where no fault was told. -/
import Derived.Test.YtnmdmhokdcmhcabGreatDoorPartC
namespace Go.Proofs.YtnmdmhokdcmhcabGreatDoor
open Go.RowKit
namespace WPanic
set_option maxRecDepth 100000 in
theorem need_ok (w : World) : Calls Tryz.prog 63 #[.int .i64 0] w fun e w' => e = .returned (.tuple #[]) ∧ w' = w := by
  have hr := hide refuse_no
  go_enter Tryz.func63, Tryz.ntmps63
  go_wp2_with fail
  refine (unhide hr 0 _).mono ?_
  rintro e w1 ⟨rfl, rfl⟩
  go_wp2_with fail
  go_end0
  exact ⟨rfl, rfl⟩
set_option maxRecDepth 100000 in
theorem need_no (c : Int) (hc : c ≠ 0) (w : World) : Calls Tryz.prog 63 #[.int .i64 c] w fun e w' => e = .panicked (pnc c) ∧ w' = w := by
  have hr := hide refuse_yes
  have t0 : (c != 0) = true := by simpa using hc
  go_enter Tryz.func63, Tryz.ntmps63
  go_wp2_with fail
  refine (unhide hr c _).mono ?_
  rintro e w1 ⟨rfl, rfl⟩
  go_wp2_with fail
  exact ⟨rfl, rfl, rfl⟩
end WPanic
end Go.Proofs.YtnmdmhokdcmhcabGreatDoor
