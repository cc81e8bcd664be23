/-
  DERIVED. GIVEN WITH THE SEED: THE PROGRAM's TIES (one call each: nine closed facts by the kernel) AND EACH ROW's TIE, after the 31st guide's Derived/Test/Toyas{Tie, Card}.lean. No idea stands in it: it is a product of the set-up. Laid BY PROGRAM, IN A SANDBOX (cutbox-door.mjs). By AI agents, Wed Nov 11 2026. No macro, syntax, notation, axiom, sorry.
-/
import Derived.Test.YtocidankimefpaaGreatDoorRows
import Derived.LaidByTextLater
import Derived.SevenTiedAt
import Derived.LaidSub
import Derived.LaidOnce
namespace Go.Proofs.YtocidankimefpaaGreatDoor
open Go
set_option maxRecDepth 100000
theorem seatTie1 : Tryz.prog.laidByTextLater [("loop.example/g00337/impl.errWrongHeap", Rows.laid_loop_example_g00337_impl_errWrongHeap), ("loop.example/g00337/impl.errNotKept", Rows.laid_loop_example_g00337_impl_errNotKept)] [.sentinel, .sentinel] true :=
  Program.laidByTextLater_by_one 47 8 2 (by kernel_rfl) (by kernel_rfl) (by kernel_rfl) (by kernel_rfl) (by kernel_rfl) (by kernel_rfl) (fun _ _ => by kernel_rfl)
theorem noOwnUnsafe : Tryz.pinned.checked.prog.headLifts.contains "ownunsafe" = false := by kernel_rfl
theorem tie : Tryz.prog.laidByTextLater [("loop.example/g00337/impl.errWrongHeap", Rows.laid_loop_example_g00337_impl_errWrongHeap)] [.sentinel] true :=
  Program.laidByTextLater.sub seatTie1 ["loop.example/g00337/impl.errWrongHeap"] (by kernel_rfl) (by kernel_rfl)
theorem fnExactGrieved_row_tie : Rows.fnExactGrievedRow.laidByTextAt .later Tryz.pinned [.sentinel] true :=
  OpenClaim.laidByTextAt_later rfl rfl tie noOwnUnsafe
theorem tie2 : Tryz.prog.laidByTextLater [("loop.example/g00337/impl.errNotKept", Rows.laid_loop_example_g00337_impl_errNotKept)] [.sentinel] true :=
  Program.laidByTextLater.sub seatTie1 ["loop.example/g00337/impl.errNotKept"] (by kernel_rfl) (by kernel_rfl)
theorem fnExactSwept_row_tie : Rows.fnExactSweptRow.laidByTextAt .later Tryz.pinned [.sentinel] true :=
  OpenClaim.laidByTextAt_later rfl rfl tie2 noOwnUnsafe
theorem fnExactGrievedUpto_row_tie : Rows.fnExactGrievedUptoRow.laidByTextAt .later Tryz.pinned [.sentinel] true :=
  OpenClaim.laidByTextAt_later rfl rfl tie noOwnUnsafe
theorem fnExactSweptUpto_row_tie : Rows.fnExactSweptUptoRow.laidByTextAt .later Tryz.pinned [.sentinel] true :=
  OpenClaim.laidByTextAt_later rfl rfl tie2 noOwnUnsafe
end Go.Proofs.YtocidankimefpaaGreatDoor
