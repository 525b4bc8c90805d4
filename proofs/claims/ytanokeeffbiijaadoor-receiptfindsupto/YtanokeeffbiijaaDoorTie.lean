/-
  DERIVED. GIVEN WITH THE SEED: THE PROGRAM's TIES (one call each: nine closed facts by the kernel) AND EACH ROW's TIE, after the 31st guide's Derived/Test/Toyas{Tie, Card}.lean. No idea stands in it: it is a product of the set-up. Laid BY PROGRAM, IN A SANDBOX (cutbox-door.mjs). By AI agents, Wed Nov 11 2026. No macro, syntax, notation, axiom, sorry.
-/
import Derived.Test.YtanokeeffbiijaaDoorRows
import Derived.LaidByTextLater
import Derived.SevenTiedAt
import Derived.LaidSub
import Derived.LaidOnce
namespace Go.Proofs.YtanokeeffbiijaaDoor
open Go
set_option maxRecDepth 100000
theorem seatTie1 : Tryd.prog.laidByTextLater [("waybill/keccak.turns", Rows.laid_waybill_keccak_turns), ("waybill/keccak.marks", Rows.laid_waybill_keccak_marks), ("waybill/waybillplay.markHash", Rows.laid_waybill_waybillplay_markHash), ("waybill/waybillplay.markAddress", Rows.laid_waybill_waybillplay_markAddress)] [.data, .data, .data, .data] true :=
  Program.laidByTextLater_by_one 29 8 33 (by kernel_rfl) (by kernel_rfl) (by kernel_rfl) (by kernel_rfl) (by kernel_rfl) (by kernel_rfl) (fun _ _ => by kernel_rfl)
theorem noOwnUnsafe : Tryd.pinned.checked.prog.headLifts.contains "ownunsafe" = false := by kernel_rfl
theorem tie : Tryd.prog.laidByTextLater [("waybill/waybillplay.markHash", Rows.laid_waybill_waybillplay_markHash), ("waybill/waybillplay.markAddress", Rows.laid_waybill_waybillplay_markAddress)] [.data, .data] true :=
  Program.laidByTextLater.sub seatTie1 ["waybill/waybillplay.markHash", "waybill/waybillplay.markAddress"] (by kernel_rfl) (by kernel_rfl)
theorem receiptFinds_row_tie : Rows.receiptFindsRow.laidByTextAt .later Tryd.pinned [.data, .data] true :=
  OpenClaim.laidByTextAt_later rfl rfl tie noOwnUnsafe
theorem tie2 : Tryd.prog.laidByTextLater [("waybill/keccak.turns", Rows.laid_waybill_keccak_turns), ("waybill/keccak.marks", Rows.laid_waybill_keccak_marks)] [.data, .data] true :=
  Program.laidByTextLater.sub seatTie1 ["waybill/keccak.turns", "waybill/keccak.marks"] (by kernel_rfl) (by kernel_rfl)
theorem receiptBlooms_row_tie : Rows.receiptBloomsRow.laidByTextAt .later Tryd.pinned [.data, .data] true :=
  OpenClaim.laidByTextAt_later rfl rfl tie2 noOwnUnsafe
theorem receiptFindsUpto_row_tie : Rows.receiptFindsUptoRow.laidByTextAt .later Tryd.pinned [.data, .data] true :=
  OpenClaim.laidByTextAt_later rfl rfl tie noOwnUnsafe
theorem receiptBloomsUpto_row_tie : Rows.receiptBloomsUptoRow.laidByTextAt .later Tryd.pinned [.data, .data] true :=
  OpenClaim.laidByTextAt_later rfl rfl tie2 noOwnUnsafe
end Go.Proofs.YtanokeeffbiijaaDoor
