/-
  DERIVED. GIVEN WITH THE SEED: THE PROGRAM's TIES (one call each: nine closed facts by the kernel) AND EACH ROW's TIE, after the 31st guide's Derived/Test/Toyas{Tie, Card}.lean. No idea stands in it: it is a product of the set-up. Laid BY PROGRAM, IN A SANDBOX (cutbox-door.mjs). By AI agents, Wed Nov 11 2026. No macro, syntax, notation, axiom, sorry.
-/
import Derived.Test.YtklgjhemcofhhaaDoorRows
import Derived.LaidByTextLater
import Derived.SevenTiedAt
import Derived.LaidSub
import Derived.LaidOnce
namespace Go.Proofs.YtklgjhemcofhhaaDoor
open Go
set_option maxRecDepth 100000
theorem seatTie1 : Tryd.prog.laidByTextLater [("errors.errorType", Rows.laid_errors_errorType), ("loop.example/g00064/impl.errTooLong", Rows.laid_loop_example_g00064_impl_errTooLong), ("loop.example/g00064/impl.errLacks", Rows.laid_loop_example_g00064_impl_errLacks), ("loop.example/g00064/impl.errLeft", Rows.laid_loop_example_g00064_impl_errLeft), ("loop.example/g00064/impl.errMark", Rows.laid_loop_example_g00064_impl_errMark), ("loop.example/g00064/impl.errDigest", Rows.laid_loop_example_g00064_impl_errDigest), ("loop.example/g00064/impl.errContent", Rows.laid_loop_example_g00064_impl_errContent), ("loop.example/g00064/impl.errArguments", Rows.laid_loop_example_g00064_impl_errArguments), ("loop.example/g00064/impl.errTaken", Rows.laid_loop_example_g00064_impl_errTaken), ("loop.example/g00064/impl.errBeyond", Rows.laid_loop_example_g00064_impl_errBeyond), ("loop.example/g00064/impl.errCrowded", Rows.laid_loop_example_g00064_impl_errCrowded)] [.handle, .sentinel, .sentinel, .sentinel, .sentinel, .sentinel, .sentinel, .sentinel, .sentinel, .sentinel, .sentinel] true :=
  Program.laidByTextLater_by_one 206 8 2 (by kernel_rfl) (by kernel_rfl) (by kernel_rfl) (by kernel_rfl) (by kernel_rfl) (by kernel_rfl) (fun _ _ => by kernel_rfl)
theorem noOwnUnsafe : Tryd.pinned.checked.prog.headLifts.contains "ownunsafe" = false := by kernel_rfl
theorem tie : Tryd.prog.laidByTextLater [("errors.errorType", Rows.laid_errors_errorType), ("loop.example/g00064/impl.errTooLong", Rows.laid_loop_example_g00064_impl_errTooLong), ("loop.example/g00064/impl.errLacks", Rows.laid_loop_example_g00064_impl_errLacks), ("loop.example/g00064/impl.errLeft", Rows.laid_loop_example_g00064_impl_errLeft), ("loop.example/g00064/impl.errMark", Rows.laid_loop_example_g00064_impl_errMark), ("loop.example/g00064/impl.errDigest", Rows.laid_loop_example_g00064_impl_errDigest), ("loop.example/g00064/impl.errContent", Rows.laid_loop_example_g00064_impl_errContent)] [.handle, .sentinel, .sentinel, .sentinel, .sentinel, .sentinel, .sentinel] true :=
  Program.laidByTextLater.sub seatTie1 ["errors.errorType", "loop.example/g00064/impl.errTooLong", "loop.example/g00064/impl.errLacks", "loop.example/g00064/impl.errLeft", "loop.example/g00064/impl.errMark", "loop.example/g00064/impl.errDigest", "loop.example/g00064/impl.errContent"] (by kernel_rfl) (by kernel_rfl)
theorem fnExactReadSave_row_tie : Rows.fnExactReadSaveRow.laidByTextAt .later Tryd.pinned [.handle, .sentinel, .sentinel, .sentinel, .sentinel, .sentinel, .sentinel] true :=
  OpenClaim.laidByTextAt_later rfl rfl tie noOwnUnsafe
theorem tie2 : Tryd.prog.laidByTextLater [("loop.example/g00064/impl.errArguments", Rows.laid_loop_example_g00064_impl_errArguments), ("loop.example/g00064/impl.errTaken", Rows.laid_loop_example_g00064_impl_errTaken), ("loop.example/g00064/impl.errBeyond", Rows.laid_loop_example_g00064_impl_errBeyond), ("loop.example/g00064/impl.errCrowded", Rows.laid_loop_example_g00064_impl_errCrowded)] [.sentinel, .sentinel, .sentinel, .sentinel] true :=
  Program.laidByTextLater.sub seatTie1 ["loop.example/g00064/impl.errArguments", "loop.example/g00064/impl.errTaken", "loop.example/g00064/impl.errBeyond", "loop.example/g00064/impl.errCrowded"] (by kernel_rfl) (by kernel_rfl)
theorem fnExactMigrateSave_row_tie : Rows.fnExactMigrateSaveRow.laidByTextAt .later Tryd.pinned [.sentinel, .sentinel, .sentinel, .sentinel] true :=
  OpenClaim.laidByTextAt_later rfl rfl tie2 noOwnUnsafe
theorem fnExactReadSaveUpto_row_tie : Rows.fnExactReadSaveUptoRow.laidByTextAt .later Tryd.pinned [.handle, .sentinel, .sentinel, .sentinel, .sentinel, .sentinel, .sentinel] true :=
  OpenClaim.laidByTextAt_later rfl rfl tie noOwnUnsafe
theorem fnExactMigrateSaveUpto_row_tie : Rows.fnExactMigrateSaveUptoRow.laidByTextAt .later Tryd.pinned [.sentinel, .sentinel, .sentinel, .sentinel] true :=
  OpenClaim.laidByTextAt_later rfl rfl tie2 noOwnUnsafe
end Go.Proofs.YtklgjhemcofhhaaDoor
