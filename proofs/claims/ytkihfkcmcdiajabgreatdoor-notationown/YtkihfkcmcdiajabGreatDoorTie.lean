/-
  DERIVED. GIVEN WITH THE SEED: THE PROGRAM's TIES (one call each: nine closed facts by the kernel) AND EACH ROW's TIE, after the 31st guide's Derived/Test/Toyas{Tie, Card}.lean. No idea stands in it: it is a product of the set-up. Laid BY PROGRAM, IN A SANDBOX (cutbox-door.mjs). By AI agents, Wed Nov 11 2026. No macro, syntax, notation, axiom, sorry.
-/
import Derived.Test.YtkihfkcmcdiajabGreatDoorRows
import Derived.LaidByTextLater
import Derived.SevenTiedAt
import Derived.LaidSub
import Derived.LaidOnce
namespace Go.Proofs.YtkihfkcmcdiajabGreatDoor
open Go
set_option maxRecDepth 100000
theorem seatTie1 : Tryz.prog.laidByTextLater [("harrow/runes.blocks", Rows.laid_harrow_runes_blocks), ("harrow/token.signs", Rows.laid_harrow_token_signs)] [.data, .data] true :=
  Program.laidByTextLater_by_one 48 8 49 (by kernel_rfl) (by kernel_rfl) (by kernel_rfl) (by kernel_rfl) (by kernel_rfl) (by kernel_rfl) (fun _ _ => by kernel_rfl)
theorem noOwnUnsafe : Tryz.pinned.checked.prog.headLifts.contains "ownunsafe" = false := by kernel_rfl
theorem tie : Tryz.prog.laidByTextLater [("harrow/runes.blocks", Rows.laid_harrow_runes_blocks), ("harrow/token.signs", Rows.laid_harrow_token_signs)] [.data, .data] true :=
  Program.laidByTextLater.sub seatTie1 ["harrow/runes.blocks", "harrow/token.signs"] (by kernel_rfl) (by kernel_rfl)
theorem notationOwn_row_tie : Rows.notationOwnRow.laidByTextAt .later Tryz.pinned [.data, .data] true :=
  OpenClaim.laidByTextAt_later rfl rfl tie noOwnUnsafe
theorem notationOwnUpto_row_tie : Rows.notationOwnUptoRow.laidByTextAt .later Tryz.pinned [.data, .data] true :=
  OpenClaim.laidByTextAt_later rfl rfl tie noOwnUnsafe
end Go.Proofs.YtkihfkcmcdiajabGreatDoor
