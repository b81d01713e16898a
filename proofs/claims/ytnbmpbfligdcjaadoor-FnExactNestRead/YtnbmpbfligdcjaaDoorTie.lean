/-
  DERIVED. GIVEN WITH THE SEED: THE PROGRAM's TIES (one call each: nine closed facts by the kernel) AND EACH ROW's TIE, after the 31st guide's Derived/Test/Toyas{Tie, Card}.lean. No idea stands in it: it is a product of the set-up. Laid BY PROGRAM, IN A SANDBOX (cutbox-door.mjs). By AI agents, Wed Nov 11 2026. No macro, syntax, notation, axiom, sorry.
-/
import Derived.Test.YtnbmpbfligdcjaaDoorRows
import Derived.LaidByTextLater
import Derived.SevenTiedAt
import Derived.LaidSub
import Derived.LaidOnce
namespace Go.Proofs.YtnbmpbfligdcjaaDoor
open Go
set_option maxRecDepth 100000
theorem seatTie1 : Tryd.prog.laidByTextLater [("loop.example/g00449/impl.errTooLong", Rows.laid_loop_example_g00449_impl_errTooLong), ("loop.example/g00449/impl.errNotRight", Rows.laid_loop_example_g00449_impl_errNotRight), ("loop.example/g00449/impl.errNoNode", Rows.laid_loop_example_g00449_impl_errNoNode), ("loop.example/g00449/impl.errNoDir", Rows.laid_loop_example_g00449_impl_errNoDir)] [.sentinel, .sentinel, .sentinel, .sentinel] true :=
  Program.laidByTextLater_by_one 85 8 2 (by kernel_rfl) (by kernel_rfl) (by kernel_rfl) (by kernel_rfl) (by kernel_rfl) (by kernel_rfl) (fun _ _ => by kernel_rfl)
theorem noOwnUnsafe : Tryd.pinned.checked.prog.headLifts.contains "ownunsafe" = false := by kernel_rfl
theorem tie : Tryd.prog.laidByTextLater [("loop.example/g00449/impl.errNotRight", Rows.laid_loop_example_g00449_impl_errNotRight), ("loop.example/g00449/impl.errNoNode", Rows.laid_loop_example_g00449_impl_errNoNode), ("loop.example/g00449/impl.errNoDir", Rows.laid_loop_example_g00449_impl_errNoDir)] [.sentinel, .sentinel, .sentinel] true :=
  Program.laidByTextLater.sub seatTie1 ["loop.example/g00449/impl.errNotRight", "loop.example/g00449/impl.errNoNode", "loop.example/g00449/impl.errNoDir"] (by kernel_rfl) (by kernel_rfl)
theorem fnExactTreeBytes_row_tie : Rows.fnExactTreeBytesRow.laidByTextAt .later Tryd.pinned [.sentinel, .sentinel, .sentinel] true :=
  OpenClaim.laidByTextAt_later rfl rfl tie noOwnUnsafe
theorem fnExactTreeRead_row_tie : Rows.fnExactTreeReadRow.laidByTextAt .later Tryd.pinned [.sentinel, .sentinel, .sentinel] true :=
  OpenClaim.laidByTextAt_later rfl rfl tie noOwnUnsafe
theorem tie2 : Tryd.prog.laidByTextLater [("loop.example/g00449/impl.errTooLong", Rows.laid_loop_example_g00449_impl_errTooLong), ("loop.example/g00449/impl.errNotRight", Rows.laid_loop_example_g00449_impl_errNotRight), ("loop.example/g00449/impl.errNoNode", Rows.laid_loop_example_g00449_impl_errNoNode), ("loop.example/g00449/impl.errNoDir", Rows.laid_loop_example_g00449_impl_errNoDir)] [.sentinel, .sentinel, .sentinel, .sentinel] true :=
  Program.laidByTextLater.sub seatTie1 ["loop.example/g00449/impl.errTooLong", "loop.example/g00449/impl.errNotRight", "loop.example/g00449/impl.errNoNode", "loop.example/g00449/impl.errNoDir"] (by kernel_rfl) (by kernel_rfl)
theorem fnExactNestBytes_row_tie : Rows.fnExactNestBytesRow.laidByTextAt .later Tryd.pinned [.sentinel, .sentinel, .sentinel, .sentinel] true :=
  OpenClaim.laidByTextAt_later rfl rfl tie2 noOwnUnsafe
theorem fnExactNestRead_row_tie : Rows.fnExactNestReadRow.laidByTextAt .later Tryd.pinned [.sentinel, .sentinel, .sentinel, .sentinel] true :=
  OpenClaim.laidByTextAt_later rfl rfl tie2 noOwnUnsafe
theorem fnExactTreeBytesUpto_row_tie : Rows.fnExactTreeBytesUptoRow.laidByTextAt .later Tryd.pinned [.sentinel, .sentinel, .sentinel] true :=
  OpenClaim.laidByTextAt_later rfl rfl tie noOwnUnsafe
theorem fnExactTreeReadUpto_row_tie : Rows.fnExactTreeReadUptoRow.laidByTextAt .later Tryd.pinned [.sentinel, .sentinel, .sentinel] true :=
  OpenClaim.laidByTextAt_later rfl rfl tie noOwnUnsafe
theorem fnExactNestBytesUpto_row_tie : Rows.fnExactNestBytesUptoRow.laidByTextAt .later Tryd.pinned [.sentinel, .sentinel, .sentinel, .sentinel] true :=
  OpenClaim.laidByTextAt_later rfl rfl tie2 noOwnUnsafe
theorem fnExactNestReadUpto_row_tie : Rows.fnExactNestReadUptoRow.laidByTextAt .later Tryd.pinned [.sentinel, .sentinel, .sentinel, .sentinel] true :=
  OpenClaim.laidByTextAt_later rfl rfl tie2 noOwnUnsafe
end Go.Proofs.YtnbmpbfligdcjaaDoor
