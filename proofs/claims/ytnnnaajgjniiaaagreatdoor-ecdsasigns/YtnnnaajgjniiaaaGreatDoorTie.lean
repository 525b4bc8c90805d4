/-
  DERIVED. GIVEN WITH THE SEED: THE PROGRAM's TIES (one call each: nine closed facts by the kernel) AND EACH ROW's TIE, after the 31st guide's Derived/Test/Toyas{Tie, Card}.lean. No idea stands in it: it is a product of the set-up. Laid BY PROGRAM, IN A SANDBOX (cutbox-door.mjs). By AI agents, Wed Nov 11 2026. No macro, syntax, notation, axiom, sorry.
-/
import Derived.Test.YtnnnaajgjniiaaaGreatDoorRows
import Derived.LaidByTextLater
import Derived.SevenTiedAt
import Derived.LaidSub
import Derived.LaidOnce
namespace Go.Proofs.YtnnnaajgjniiaaaGreatDoor
open Go
set_option maxRecDepth 100000
theorem seatTie1 : Tryz.prog.laidByTextLater [("waybill/sha.first", Rows.laid_waybill_sha_first), ("waybill/sha.steps", Rows.laid_waybill_sha_steps), ("waybill/field.moduli", Rows.laid_waybill_field_moduli), ("waybill/curve.columns", Rows.laid_waybill_curve_columns)] [.data, .data, .data, .data] true :=
  Program.laidByTextLater_by_one 106 8 145 (by kernel_rfl) (by kernel_rfl) (by kernel_rfl) (by kernel_rfl) (by kernel_rfl) (by kernel_rfl) (fun _ _ => by kernel_rfl)
theorem seatTie2 : Tryz.prog.laidByTextLater [("math/bits.deBruijn32tab", Rows.laid_math_bits_deBruijn32tab), ("math/bits.deBruijn64tab", Rows.laid_math_bits_deBruijn64tab), ("internal/strconv.uint64pow10", Rows.laid_internal_strconv_uint64pow10), ("waybill/keccak.turns", Rows.laid_waybill_keccak_turns), ("waybill/keccak.marks", Rows.laid_waybill_keccak_marks), ("waybill/sha.first", Rows.laid_waybill_sha_first), ("waybill/sha.steps", Rows.laid_waybill_sha_steps), ("waybill/field.moduli", Rows.laid_waybill_field_moduli), ("waybill/curve.columns", Rows.laid_waybill_curve_columns)] [.data, .data, .data, .data, .data, .data, .data, .data, .data] true :=
  Program.laidByTextLater_by_one 106 8 145 (by kernel_rfl) (by kernel_rfl) (by kernel_rfl) (by kernel_rfl) (by kernel_rfl) (by kernel_rfl) (fun _ _ => by kernel_rfl)
theorem noOwnUnsafe : Tryz.pinned.checked.prog.headLifts.contains "ownunsafe" = false := by kernel_rfl
theorem tie : Tryz.prog.laidByTextLater [("waybill/sha.first", Rows.laid_waybill_sha_first), ("waybill/sha.steps", Rows.laid_waybill_sha_steps), ("waybill/field.moduli", Rows.laid_waybill_field_moduli), ("waybill/curve.columns", Rows.laid_waybill_curve_columns)] [.data, .data, .data, .data] true :=
  Program.laidByTextLater.sub seatTie1 ["waybill/sha.first", "waybill/sha.steps", "waybill/field.moduli", "waybill/curve.columns"] (by kernel_rfl) (by kernel_rfl)
theorem ecdsaSigns_row_tie : Rows.ecdsaSignsRow.laidByTextAt .later Tryz.pinned [.data, .data, .data, .data] true :=
  OpenClaim.laidByTextAt_later rfl rfl tie noOwnUnsafe
theorem tie2 : Tryz.prog.laidByTextLater [("math/bits.deBruijn32tab", Rows.laid_math_bits_deBruijn32tab), ("math/bits.deBruijn64tab", Rows.laid_math_bits_deBruijn64tab), ("internal/strconv.uint64pow10", Rows.laid_internal_strconv_uint64pow10), ("waybill/keccak.turns", Rows.laid_waybill_keccak_turns), ("waybill/keccak.marks", Rows.laid_waybill_keccak_marks), ("waybill/sha.first", Rows.laid_waybill_sha_first), ("waybill/sha.steps", Rows.laid_waybill_sha_steps), ("waybill/field.moduli", Rows.laid_waybill_field_moduli), ("waybill/curve.columns", Rows.laid_waybill_curve_columns)] [.data, .data, .data, .data, .data, .data, .data, .data, .data] true :=
  Program.laidByTextLater.sub seatTie2 ["math/bits.deBruijn32tab", "math/bits.deBruijn64tab", "internal/strconv.uint64pow10", "waybill/keccak.turns", "waybill/keccak.marks", "waybill/sha.first", "waybill/sha.steps", "waybill/field.moduli", "waybill/curve.columns"] (by kernel_rfl) (by kernel_rfl)
theorem messageSelf_row_tie : Rows.messageSelfRow.laidByTextAt .later Tryz.pinned [.data, .data, .data, .data, .data, .data, .data, .data, .data] true :=
  OpenClaim.laidByTextAt_later rfl rfl tie2 noOwnUnsafe
theorem ecdsaSignsUpto_row_tie : Rows.ecdsaSignsUptoRow.laidByTextAt .later Tryz.pinned [.data, .data, .data, .data] true :=
  OpenClaim.laidByTextAt_later rfl rfl tie noOwnUnsafe
theorem messageSelfUpto_row_tie : Rows.messageSelfUptoRow.laidByTextAt .later Tryz.pinned [.data, .data, .data, .data, .data, .data, .data, .data, .data] true :=
  OpenClaim.laidByTextAt_later rfl rfl tie2 noOwnUnsafe
end Go.Proofs.YtnnnaajgjniiaaaGreatDoor
