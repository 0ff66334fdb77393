/-
  DERIVED. GIVEN WITH THE SEED: THE PROGRAM's TIES (one call each: nine closed facts by the kernel) AND EACH ROW's TIE, after the 31st guide's Derived/Test/Toyas{Tie, Card}.lean. No idea stands in it: it is a product of the set-up. Laid BY PROGRAM, IN A SANDBOX (cutbox-door.mjs). By AI agents, Wed Nov 11 2026. No macro, syntax, notation, axiom, sorry.
-/
import Derived.Test.YtcebpkeiaiiphaaGreatDoorRows
import Derived.LaidByTextLater
import Derived.SevenTiedAt
import Derived.LaidSub
import Derived.LaidOnce
namespace Go.Proofs.YtcebpkeiaiiphaaGreatDoor
open Go
set_option maxRecDepth 100000
theorem seatTie1 : Tryz.prog.laidByTextLater [("errors.errorType", Rows.laid_errors_errorType), ("loop.example/portolan/impl.errChartBadPart", Rows.laid_loop_example_portolan_impl_errChartBadPart), ("loop.example/portolan/impl.errChartTwice", Rows.laid_loop_example_portolan_impl_errChartTwice), ("loop.example/portolan/impl.errChartUnlike", Rows.laid_loop_example_portolan_impl_errChartUnlike), ("loop.example/portolan/impl.errChartKey", Rows.laid_loop_example_portolan_impl_errChartKey), ("loop.example/portolan/impl.errChartShared", Rows.laid_loop_example_portolan_impl_errChartShared), ("loop.example/portolan/impl.errChartFar", Rows.laid_loop_example_portolan_impl_errChartFar), ("loop.example/portolan/impl.errChartNeeds", Rows.laid_loop_example_portolan_impl_errChartNeeds), ("loop.example/portolan/impl.errChartMany", Rows.laid_loop_example_portolan_impl_errChartMany)] [.handle, .sentinel, .sentinel, .sentinel, .sentinel, .sentinel, .sentinel, .sentinel, .sentinel] true :=
  Program.laidByTextLater_by_one 168 8 2 (by kernel_rfl) (by kernel_rfl) (by kernel_rfl) (by kernel_rfl) (by kernel_rfl) (by kernel_rfl) (fun _ _ => by kernel_rfl)
theorem noOwnUnsafe : Tryz.pinned.checked.prog.headLifts.contains "ownunsafe" = false := by kernel_rfl
theorem tie : Tryz.prog.laidByTextLater [("loop.example/portolan/impl.errChartBadPart", Rows.laid_loop_example_portolan_impl_errChartBadPart), ("loop.example/portolan/impl.errChartTwice", Rows.laid_loop_example_portolan_impl_errChartTwice), ("loop.example/portolan/impl.errChartUnlike", Rows.laid_loop_example_portolan_impl_errChartUnlike), ("loop.example/portolan/impl.errChartKey", Rows.laid_loop_example_portolan_impl_errChartKey), ("loop.example/portolan/impl.errChartShared", Rows.laid_loop_example_portolan_impl_errChartShared), ("loop.example/portolan/impl.errChartFar", Rows.laid_loop_example_portolan_impl_errChartFar), ("loop.example/portolan/impl.errChartNeeds", Rows.laid_loop_example_portolan_impl_errChartNeeds), ("loop.example/portolan/impl.errChartMany", Rows.laid_loop_example_portolan_impl_errChartMany)] [.sentinel, .sentinel, .sentinel, .sentinel, .sentinel, .sentinel, .sentinel, .sentinel] true :=
  Program.laidByTextLater.sub seatTie1 ["loop.example/portolan/impl.errChartBadPart", "loop.example/portolan/impl.errChartTwice", "loop.example/portolan/impl.errChartUnlike", "loop.example/portolan/impl.errChartKey", "loop.example/portolan/impl.errChartShared", "loop.example/portolan/impl.errChartFar", "loop.example/portolan/impl.errChartNeeds", "loop.example/portolan/impl.errChartMany"] (by kernel_rfl) (by kernel_rfl)
theorem fnExactReachAll_row_tie : Rows.fnExactReachAllRow.laidByTextAt .later Tryz.pinned [.sentinel, .sentinel, .sentinel, .sentinel, .sentinel, .sentinel, .sentinel, .sentinel] true :=
  OpenClaim.laidByTextAt_later rfl rfl tie noOwnUnsafe
theorem fnExactReachOk_row_tie : Rows.fnExactReachOkRow.laidByTextAt .later Tryz.pinned [.sentinel, .sentinel, .sentinel, .sentinel, .sentinel, .sentinel, .sentinel, .sentinel] true :=
  OpenClaim.laidByTextAt_later rfl rfl tie noOwnUnsafe
theorem fnExactChartSafe_row_tie : Rows.fnExactChartSafeRow.laidByTextAt .later Tryz.pinned [.sentinel, .sentinel, .sentinel, .sentinel, .sentinel, .sentinel, .sentinel, .sentinel] true :=
  OpenClaim.laidByTextAt_later rfl rfl tie noOwnUnsafe
theorem tie2 : Tryz.prog.laidByTextLater [("errors.errorType", Rows.laid_errors_errorType), ("loop.example/portolan/impl.errChartBadPart", Rows.laid_loop_example_portolan_impl_errChartBadPart), ("loop.example/portolan/impl.errChartTwice", Rows.laid_loop_example_portolan_impl_errChartTwice), ("loop.example/portolan/impl.errChartUnlike", Rows.laid_loop_example_portolan_impl_errChartUnlike), ("loop.example/portolan/impl.errChartKey", Rows.laid_loop_example_portolan_impl_errChartKey), ("loop.example/portolan/impl.errChartShared", Rows.laid_loop_example_portolan_impl_errChartShared), ("loop.example/portolan/impl.errChartFar", Rows.laid_loop_example_portolan_impl_errChartFar), ("loop.example/portolan/impl.errChartNeeds", Rows.laid_loop_example_portolan_impl_errChartNeeds), ("loop.example/portolan/impl.errChartMany", Rows.laid_loop_example_portolan_impl_errChartMany)] [.handle, .sentinel, .sentinel, .sentinel, .sentinel, .sentinel, .sentinel, .sentinel, .sentinel] true :=
  Program.laidByTextLater.sub seatTie1 ["errors.errorType", "loop.example/portolan/impl.errChartBadPart", "loop.example/portolan/impl.errChartTwice", "loop.example/portolan/impl.errChartUnlike", "loop.example/portolan/impl.errChartKey", "loop.example/portolan/impl.errChartShared", "loop.example/portolan/impl.errChartFar", "loop.example/portolan/impl.errChartNeeds", "loop.example/portolan/impl.errChartMany"] (by kernel_rfl) (by kernel_rfl)
theorem fnExactChartMoves_row_tie : Rows.fnExactChartMovesRow.laidByTextAt .later Tryz.pinned [.handle, .sentinel, .sentinel, .sentinel, .sentinel, .sentinel, .sentinel, .sentinel, .sentinel] true :=
  OpenClaim.laidByTextAt_later rfl rfl tie2 noOwnUnsafe
theorem fnExactReachAllUpto_row_tie : Rows.fnExactReachAllUptoRow.laidByTextAt .later Tryz.pinned [.sentinel, .sentinel, .sentinel, .sentinel, .sentinel, .sentinel, .sentinel, .sentinel] true :=
  OpenClaim.laidByTextAt_later rfl rfl tie noOwnUnsafe
theorem fnExactReachOkUpto_row_tie : Rows.fnExactReachOkUptoRow.laidByTextAt .later Tryz.pinned [.sentinel, .sentinel, .sentinel, .sentinel, .sentinel, .sentinel, .sentinel, .sentinel] true :=
  OpenClaim.laidByTextAt_later rfl rfl tie noOwnUnsafe
theorem fnExactChartMovesUpto_row_tie : Rows.fnExactChartMovesUptoRow.laidByTextAt .later Tryz.pinned [.handle, .sentinel, .sentinel, .sentinel, .sentinel, .sentinel, .sentinel, .sentinel, .sentinel] true :=
  OpenClaim.laidByTextAt_later rfl rfl tie2 noOwnUnsafe
theorem fnExactChartSafeUpto_row_tie : Rows.fnExactChartSafeUptoRow.laidByTextAt .later Tryz.pinned [.sentinel, .sentinel, .sentinel, .sentinel, .sentinel, .sentinel, .sentinel, .sentinel] true :=
  OpenClaim.laidByTextAt_later rfl rfl tie noOwnUnsafe
end Go.Proofs.YtcebpkeiaiiphaaGreatDoor
