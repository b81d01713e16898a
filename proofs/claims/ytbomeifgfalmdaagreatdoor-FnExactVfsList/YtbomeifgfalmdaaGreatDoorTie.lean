/-
  DERIVED. GIVEN WITH THE SEED: THE PROGRAM's TIES (one call each: nine closed facts by the kernel) AND EACH ROW's TIE, after the 31st guide's Derived/Test/Toyas{Tie, Card}.lean. No idea stands in it: it is a product of the set-up. Laid BY PROGRAM, IN A SANDBOX (cutbox-door.mjs). By AI agents, Wed Nov 11 2026. No macro, syntax, notation, axiom, sorry.
-/
import Derived.Test.YtbomeifgfalmdaaGreatDoorRows
import Derived.LaidByTextLater
import Derived.SevenTiedAt
import Derived.LaidSub
import Derived.LaidOnce
namespace Go.Proofs.YtbomeifgfalmdaaGreatDoor
open Go
set_option maxRecDepth 100000
theorem seatTie1 : Tryz.prog.laidByTextLater [("errors.errorType", Rows.laid_errors_errorType), ("loop.example/g00449/impl.errTooLong", Rows.laid_loop_example_g00449_impl_errTooLong), ("loop.example/g00449/impl.errNotRight", Rows.laid_loop_example_g00449_impl_errNotRight), ("loop.example/g00449/impl.errNoNode", Rows.laid_loop_example_g00449_impl_errNoNode), ("loop.example/g00449/impl.errNoDir", Rows.laid_loop_example_g00449_impl_errNoDir), ("loop.example/g00449/impl.reasonCodes", Rows.laid_loop_example_g00449_impl_reasonCodes)] [.handle, .sentinel, .sentinel, .sentinel, .sentinel, .data] true :=
  Program.laidByTextLater_by_one 97 8 10 (by kernel_rfl) (by kernel_rfl) (by kernel_rfl) (by kernel_rfl) (by kernel_rfl) (by kernel_rfl) (fun _ _ => by kernel_rfl)
theorem noOwnUnsafe : Tryz.pinned.checked.prog.headLifts.contains "ownunsafe" = false := by kernel_rfl
theorem tie : Tryz.prog.laidByTextLater [("errors.errorType", Rows.laid_errors_errorType), ("loop.example/g00449/impl.errTooLong", Rows.laid_loop_example_g00449_impl_errTooLong), ("loop.example/g00449/impl.errNotRight", Rows.laid_loop_example_g00449_impl_errNotRight), ("loop.example/g00449/impl.errNoNode", Rows.laid_loop_example_g00449_impl_errNoNode), ("loop.example/g00449/impl.errNoDir", Rows.laid_loop_example_g00449_impl_errNoDir), ("loop.example/g00449/impl.reasonCodes", Rows.laid_loop_example_g00449_impl_reasonCodes)] [.handle, .sentinel, .sentinel, .sentinel, .sentinel, .data] true :=
  Program.laidByTextLater.sub seatTie1 ["errors.errorType", "loop.example/g00449/impl.errTooLong", "loop.example/g00449/impl.errNotRight", "loop.example/g00449/impl.errNoNode", "loop.example/g00449/impl.errNoDir", "loop.example/g00449/impl.reasonCodes"] (by kernel_rfl) (by kernel_rfl)
theorem fnExactVfsList_row_tie : Rows.fnExactVfsListRow.laidByTextAt .later Tryz.pinned [.handle, .sentinel, .sentinel, .sentinel, .sentinel, .data] true :=
  OpenClaim.laidByTextAt_later rfl rfl tie noOwnUnsafe
theorem fnExactVfsListUpto_row_tie : Rows.fnExactVfsListUptoRow.laidByTextAt .later Tryz.pinned [.handle, .sentinel, .sentinel, .sentinel, .sentinel, .data] true :=
  OpenClaim.laidByTextAt_later rfl rfl tie noOwnUnsafe
end Go.Proofs.YtbomeifgfalmdaaGreatDoor
