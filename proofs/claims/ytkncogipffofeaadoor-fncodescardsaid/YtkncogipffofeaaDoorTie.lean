/-
  DERIVED. GIVEN WITH THE SEED: THE PROGRAM's TIES (one call each: nine closed facts by the kernel) AND EACH ROW's TIE, after the 31st guide's Derived/Test/Toyas{Tie, Card}.lean. No idea stands in it: it is a product of the set-up. Laid BY PROGRAM, IN A SANDBOX (cutbox-door.mjs). By AI agents, Wed Nov 11 2026. No macro, syntax, notation, axiom, sorry.
-/
import Derived.Test.YtkncogipffofeaaDoorRows
import Derived.LaidByTextLater
import Derived.SevenTiedAt
import Derived.LaidSub
import Derived.LaidOnce
namespace Go.Proofs.YtkncogipffofeaaDoor
open Go
set_option maxRecDepth 100000
theorem seatTie1 : Tryd.prog.laidByTextLater [("loop.example/g00024/impl.windOf", Rows.laid_loop_example_g00024_impl_windOf), ("loop.example/g00024/impl.spreadOf", Rows.laid_loop_example_g00024_impl_spreadOf), ("loop.example/g00024/impl.gatherOf", Rows.laid_loop_example_g00024_impl_gatherOf)] [.data, .data, .data] true :=
  Program.laidByTextLater_by_one 27 8 17 (by kernel_rfl) (by kernel_rfl) (by kernel_rfl) (by kernel_rfl) (by kernel_rfl) (by kernel_rfl) (fun _ _ => by kernel_rfl)
theorem noOwnUnsafe : Tryd.pinned.checked.prog.headLifts.contains "ownunsafe" = false := by kernel_rfl
theorem tie : Tryd.prog.laidByTextLater [("loop.example/g00024/impl.spreadOf", Rows.laid_loop_example_g00024_impl_spreadOf), ("loop.example/g00024/impl.gatherOf", Rows.laid_loop_example_g00024_impl_gatherOf)] [.data, .data] true :=
  Program.laidByTextLater.sub seatTie1 ["loop.example/g00024/impl.spreadOf", "loop.example/g00024/impl.gatherOf"] (by kernel_rfl) (by kernel_rfl)
theorem fnCodes_row_tie : Rows.fnCodesRow.laidByTextAt .later Tryd.pinned [.data, .data] true :=
  OpenClaim.laidByTextAt_later rfl rfl tie noOwnUnsafe
theorem tie2 : Tryd.prog.laidByTextLater [("loop.example/g00024/impl.windOf", Rows.laid_loop_example_g00024_impl_windOf)] [.data] true :=
  Program.laidByTextLater.sub seatTie1 ["loop.example/g00024/impl.windOf"] (by kernel_rfl) (by kernel_rfl)
theorem fnHeadings_row_tie : Rows.fnHeadingsRow.laidByTextAt .later Tryd.pinned [.data] true :=
  OpenClaim.laidByTextAt_later rfl rfl tie2 noOwnUnsafe
theorem fnCodesUpto_row_tie : Rows.fnCodesUptoRow.laidByTextAt .later Tryd.pinned [.data, .data] true :=
  OpenClaim.laidByTextAt_later rfl rfl tie noOwnUnsafe
theorem fnHeadingsUpto_row_tie : Rows.fnHeadingsUptoRow.laidByTextAt .later Tryd.pinned [.data] true :=
  OpenClaim.laidByTextAt_later rfl rfl tie2 noOwnUnsafe
end Go.Proofs.YtkncogipffofeaaDoor
