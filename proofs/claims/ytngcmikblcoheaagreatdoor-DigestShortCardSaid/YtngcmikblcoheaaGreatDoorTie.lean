/-
  DERIVED. GIVEN WITH THE SEED: THE PROGRAM's TIES (one call each: nine closed facts by the kernel) AND EACH ROW's TIE, after the 31st guide's Derived/Test/Toyas{Tie, Card}.lean. No idea stands in it: it is a product of the set-up. Laid BY PROGRAM, IN A SANDBOX (cutbox-door.mjs). By AI agents, Wed Nov 11 2026. No macro, syntax, notation, axiom, sorry.
-/
import Derived.Test.YtngcmikblcoheaaGreatDoorRows
import Derived.LaidByTextLater
import Derived.SevenTiedAt
import Derived.LaidSub
import Derived.LaidOnce
namespace Go.Proofs.YtngcmikblcoheaaGreatDoor
open Go
set_option maxRecDepth 100000
theorem seatTie1 : Tryz.prog.laidByTextLater [("vestry/sha.constants", Rows.laid_vestry_sha_constants), ("vestry/sha.start", Rows.laid_vestry_sha_start), ("vestry/name.reserved", Rows.laid_vestry_name_reserved)] [.data, .data, .data] true :=
  Program.laidByTextLater_by_one 24 8 65 (by kernel_rfl) (by kernel_rfl) (by kernel_rfl) (by kernel_rfl) (by kernel_rfl) (by kernel_rfl) (fun _ _ => by kernel_rfl)
theorem noOwnUnsafe : Tryz.pinned.checked.prog.headLifts.contains "ownunsafe" = false := by kernel_rfl
theorem tie : Tryz.prog.laidByTextLater [("vestry/sha.constants", Rows.laid_vestry_sha_constants), ("vestry/sha.start", Rows.laid_vestry_sha_start), ("vestry/name.reserved", Rows.laid_vestry_name_reserved)] [.data, .data, .data] true :=
  Program.laidByTextLater.sub seatTie1 ["vestry/sha.constants", "vestry/sha.start", "vestry/name.reserved"] (by kernel_rfl) (by kernel_rfl)
theorem digestShort_row_tie : Rows.digestShortRow.laidByTextAt .later Tryz.pinned [.data, .data, .data] true :=
  OpenClaim.laidByTextAt_later rfl rfl tie noOwnUnsafe
theorem digestShortUpto_row_tie : Rows.digestShortUptoRow.laidByTextAt .later Tryz.pinned [.data, .data, .data] true :=
  OpenClaim.laidByTextAt_later rfl rfl tie noOwnUnsafe
end Go.Proofs.YtngcmikblcoheaaGreatDoor
