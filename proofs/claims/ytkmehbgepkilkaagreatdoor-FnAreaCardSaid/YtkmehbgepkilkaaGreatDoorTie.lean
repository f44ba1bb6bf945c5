/-
  DERIVED. GIVEN WITH THE SEED: THE PROGRAM's TIES (one call each: nine closed facts by the kernel) AND EACH ROW's TIE, after the 31st guide's Derived/Test/Toyas{Tie, Card}.lean. No idea stands in it: it is a product of the set-up. Laid BY PROGRAM, IN A SANDBOX (cutbox-door.mjs). By AI agents, Wed Nov 11 2026. No macro, syntax, notation, axiom, sorry.
-/
import Derived.Test.YtkmehbgepkilkaaGreatDoorRows
import Derived.LaidByTextLater
import Derived.SevenTiedAt
import Derived.LaidSub
import Derived.LaidOnce
namespace Go.Proofs.YtkmehbgepkilkaaGreatDoor
open Go
set_option maxRecDepth 100000
theorem seatTie1 : Tryz.prog.laidByTextLater [("errors.errorType", Rows.laid_errors_errorType), ("loop.example/g00416/impl.errDiskForm", Rows.laid_loop_example_g00416_impl_errDiskForm), ("loop.example/g00416/impl.errDiskRange", Rows.laid_loop_example_g00416_impl_errDiskRange), ("loop.example/g00416/impl.errDiskFull", Rows.laid_loop_example_g00416_impl_errDiskFull)] [.handle, .sentinel, .sentinel, .sentinel] true :=
  Program.laidByTextLater_by_one 73 8 2 (by kernel_rfl) (by kernel_rfl) (by kernel_rfl) (by kernel_rfl) (by kernel_rfl) (by kernel_rfl) (fun _ _ => by kernel_rfl)
theorem noOwnUnsafe : Tryz.pinned.checked.prog.headLifts.contains "ownunsafe" = false := by kernel_rfl
theorem tie : Tryz.prog.laidByTextLater [("errors.errorType", Rows.laid_errors_errorType), ("loop.example/g00416/impl.errDiskForm", Rows.laid_loop_example_g00416_impl_errDiskForm), ("loop.example/g00416/impl.errDiskRange", Rows.laid_loop_example_g00416_impl_errDiskRange), ("loop.example/g00416/impl.errDiskFull", Rows.laid_loop_example_g00416_impl_errDiskFull)] [.handle, .sentinel, .sentinel, .sentinel] true :=
  Program.laidByTextLater.sub seatTie1 ["errors.errorType", "loop.example/g00416/impl.errDiskForm", "loop.example/g00416/impl.errDiskRange", "loop.example/g00416/impl.errDiskFull"] (by kernel_rfl) (by kernel_rfl)
theorem fnArea_row_tie : Rows.fnAreaRow.laidByTextAt .later Tryz.pinned [.handle, .sentinel, .sentinel, .sentinel] true :=
  OpenClaim.laidByTextAt_later rfl rfl tie noOwnUnsafe
theorem fnAreaTorn_row_tie : Rows.fnAreaTornRow.laidByTextAt .later Tryz.pinned [.handle, .sentinel, .sentinel, .sentinel] true :=
  OpenClaim.laidByTextAt_later rfl rfl tie noOwnUnsafe
theorem fnAreaUpto_row_tie : Rows.fnAreaUptoRow.laidByTextAt .later Tryz.pinned [.handle, .sentinel, .sentinel, .sentinel] true :=
  OpenClaim.laidByTextAt_later rfl rfl tie noOwnUnsafe
theorem fnAreaTornUpto_row_tie : Rows.fnAreaTornUptoRow.laidByTextAt .later Tryz.pinned [.handle, .sentinel, .sentinel, .sentinel] true :=
  OpenClaim.laidByTextAt_later rfl rfl tie noOwnUnsafe
end Go.Proofs.YtkmehbgepkilkaaGreatDoor
