/-
  DERIVED. GIVEN WITH THE SEED: THE PROGRAM's TIES (one call each: nine closed facts by the kernel) AND EACH ROW's TIE, after the 31st guide's Derived/Test/Toyas{Tie, Card}.lean. No idea stands in it: it is a product of the set-up. Laid BY PROGRAM, IN A SANDBOX (cutbox-door.mjs). By AI agents, Wed Nov 11 2026. No macro, syntax, notation, axiom, sorry.
-/
import Derived.Test.YtjoandmehahfgaaGreatDoorRows
import Derived.LaidByTextLater
import Derived.SevenTiedAt
import Derived.LaidSub
import Derived.LaidOnce
namespace Go.Proofs.YtjoandmehahfgaaGreatDoor
open Go
set_option maxRecDepth 100000
theorem seatTie1 : Tryz.prog.laidByTextLater [("waybill/keccak.turns", Rows.laid_waybill_keccak_turns), ("waybill/keccak.marks", Rows.laid_waybill_keccak_marks), ("waybill/sha.first", Rows.laid_waybill_sha_first), ("waybill/sha.steps", Rows.laid_waybill_sha_steps), ("waybill/field.moduli", Rows.laid_waybill_field_moduli), ("waybill/curve.columns", Rows.laid_waybill_curve_columns)] [.data, .data, .data, .data, .data, .data] true :=
  Program.laidByTextLater_by_one 91 8 145 (by kernel_rfl) (by kernel_rfl) (by kernel_rfl) (by kernel_rfl) (by kernel_rfl) (by kernel_rfl) (fun _ _ => by kernel_rfl)
theorem noOwnUnsafe : Tryz.pinned.checked.prog.headLifts.contains "ownunsafe" = false := by kernel_rfl
theorem tie : Tryz.prog.laidByTextLater [("waybill/keccak.turns", Rows.laid_waybill_keccak_turns), ("waybill/keccak.marks", Rows.laid_waybill_keccak_marks), ("waybill/sha.first", Rows.laid_waybill_sha_first), ("waybill/sha.steps", Rows.laid_waybill_sha_steps), ("waybill/field.moduli", Rows.laid_waybill_field_moduli), ("waybill/curve.columns", Rows.laid_waybill_curve_columns)] [.data, .data, .data, .data, .data, .data] true :=
  Program.laidByTextLater.sub seatTie1 ["waybill/keccak.turns", "waybill/keccak.marks", "waybill/sha.first", "waybill/sha.steps", "waybill/field.moduli", "waybill/curve.columns"] (by kernel_rfl) (by kernel_rfl)
theorem accessSelf_row_tie : Rows.accessSelfRow.laidByTextAt .later Tryz.pinned [.data, .data, .data, .data, .data, .data] true :=
  OpenClaim.laidByTextAt_later rfl rfl tie noOwnUnsafe
theorem accessSelfUpto_row_tie : Rows.accessSelfUptoRow.laidByTextAt .later Tryz.pinned [.data, .data, .data, .data, .data, .data] true :=
  OpenClaim.laidByTextAt_later rfl rfl tie noOwnUnsafe
end Go.Proofs.YtjoandmehahfgaaGreatDoor
