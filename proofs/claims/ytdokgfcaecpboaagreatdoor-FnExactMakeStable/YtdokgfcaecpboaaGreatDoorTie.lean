/-
  DERIVED. GIVEN WITH THE SEED: THE PROGRAM's TIES (one call each: nine closed facts by the kernel) AND EACH ROW's TIE, after the 31st guide's Derived/Test/Toyas{Tie, Card}.lean. No idea stands in it: it is a product of the set-up. Laid BY PROGRAM, IN A SANDBOX (cutbox-door.mjs). By AI agents, Wed Nov 11 2026. No macro, syntax, notation, axiom, sorry.
-/
import Derived.Test.YtdokgfcaecpboaaGreatDoorRows
import Derived.LaidByTextLater
import Derived.SevenTiedAt
import Derived.LaidSub
import Derived.LaidOnce
namespace Go.Proofs.YtdokgfcaecpboaaGreatDoor
open Go
set_option maxRecDepth 100000
theorem seatTie1 : Tryz.prog.laidByTextLater [("loop.example/g00292/impl.roundWords", Rows.laid_loop_example_g00292_impl_roundWords), ("loop.example/g00292/impl.errNotRight", Rows.laid_loop_example_g00292_impl_errNotRight), ("loop.example/g00292/impl.errTooLong", Rows.laid_loop_example_g00292_impl_errTooLong), ("loop.example/g00292/impl.errNoTable", Rows.laid_loop_example_g00292_impl_errNoTable), ("loop.example/g00292/impl.errOutside", Rows.laid_loop_example_g00292_impl_errOutside), ("loop.example/g00292/impl.errNoProof", Rows.laid_loop_example_g00292_impl_errNoProof), ("loop.example/g00292/impl.errOtherRoot", Rows.laid_loop_example_g00292_impl_errOtherRoot), ("loop.example/g00292/impl.errNotSigned", Rows.laid_loop_example_g00292_impl_errNotSigned), ("loop.example/g00292/impl.errNoQuorum", Rows.laid_loop_example_g00292_impl_errNoQuorum)] [.data, .sentinel, .sentinel, .sentinel, .sentinel, .sentinel, .sentinel, .sentinel, .sentinel] true :=
  Program.laidByTextLater_by_one 166 8 65 (by kernel_rfl) (by kernel_rfl) (by kernel_rfl) (by kernel_rfl) (by kernel_rfl) (by kernel_rfl) (fun _ _ => by kernel_rfl)
theorem noOwnUnsafe : Tryz.pinned.checked.prog.headLifts.contains "ownunsafe" = false := by kernel_rfl
theorem tie : Tryz.prog.laidByTextLater [("loop.example/g00292/impl.roundWords", Rows.laid_loop_example_g00292_impl_roundWords), ("loop.example/g00292/impl.errNotRight", Rows.laid_loop_example_g00292_impl_errNotRight), ("loop.example/g00292/impl.errTooLong", Rows.laid_loop_example_g00292_impl_errTooLong), ("loop.example/g00292/impl.errNoTable", Rows.laid_loop_example_g00292_impl_errNoTable), ("loop.example/g00292/impl.errOutside", Rows.laid_loop_example_g00292_impl_errOutside), ("loop.example/g00292/impl.errNoProof", Rows.laid_loop_example_g00292_impl_errNoProof), ("loop.example/g00292/impl.errOtherRoot", Rows.laid_loop_example_g00292_impl_errOtherRoot), ("loop.example/g00292/impl.errNotSigned", Rows.laid_loop_example_g00292_impl_errNotSigned), ("loop.example/g00292/impl.errNoQuorum", Rows.laid_loop_example_g00292_impl_errNoQuorum)] [.data, .sentinel, .sentinel, .sentinel, .sentinel, .sentinel, .sentinel, .sentinel, .sentinel] true :=
  Program.laidByTextLater.sub seatTie1 ["loop.example/g00292/impl.roundWords", "loop.example/g00292/impl.errNotRight", "loop.example/g00292/impl.errTooLong", "loop.example/g00292/impl.errNoTable", "loop.example/g00292/impl.errOutside", "loop.example/g00292/impl.errNoProof", "loop.example/g00292/impl.errOtherRoot", "loop.example/g00292/impl.errNotSigned", "loop.example/g00292/impl.errNoQuorum"] (by kernel_rfl) (by kernel_rfl)
theorem fnExactMakeStable_row_tie : Rows.fnExactMakeStableRow.laidByTextAt .later Tryz.pinned [.data, .sentinel, .sentinel, .sentinel, .sentinel, .sentinel, .sentinel, .sentinel, .sentinel] true :=
  OpenClaim.laidByTextAt_later rfl rfl tie noOwnUnsafe
theorem fnExactMakeStableUpto_row_tie : Rows.fnExactMakeStableUptoRow.laidByTextAt .later Tryz.pinned [.data, .sentinel, .sentinel, .sentinel, .sentinel, .sentinel, .sentinel, .sentinel, .sentinel] true :=
  OpenClaim.laidByTextAt_later rfl rfl tie noOwnUnsafe
end Go.Proofs.YtdokgfcaecpboaaGreatDoor
