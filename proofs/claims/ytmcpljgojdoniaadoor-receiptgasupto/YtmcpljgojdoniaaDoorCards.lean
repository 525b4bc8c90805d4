/-
  DERIVED. GIVEN WITH THE SEED: THE CARDS: each row of YtmcpljgojdoniaaDoorRows.lean that lists a variable, with what it lists TIED to the program's text (the seventh form; the later family's looks); each row that meets fmt, with fmt's text TOLD by the authors' own Lean function (tested against real Go, not proved from fmt's source: count such statements apart). THE CARD IS WHAT COUNTS. Prove the row's statement (the work); the ties are given (YtmcpljgojdoniaaDoorTie.lean); close each card by the builder's one call (the guide's Derived/Test/ToyasCard.lean, 'card_holds'). Laid BY PROGRAM, IN A SANDBOX (cutbox-door.mjs). By AI agents, Wed Nov 11 2026. No macro, syntax, notation, axiom, sorry.
-/
import Derived.Test.YtmcpljgojdoniaaDoorRows
import GoSem.ClaimSeven
namespace Go.Proofs.YtmcpljgojdoniaaDoor
namespace Rows

/-- THE TIED CARD OF 'waybilllaw17.ReceiptGas'. -/
def receiptGasCard : Claim7 := { stood := { row := receiptGasRow, standIns := [], harness := (true, "5fb532990d5a8cdb8821bdb22a349ad04a0d9f68691c57600c64c3be3e948d4b"), looks := false }, kinds := [], alts := [], laidByText := true, laidKinds := [.data, .data], laidTests := true, laidLooks := .later }
def ReceiptGasCardSaid : Prop := Claim7.holds Tryd.pinned (.plain (OpenSpec.ofChange receiptGasSpec)) receiptGasCard

/-- THE TIED CARD OF 'waybilllaw17.ReceiptFinds'. -/
def receiptFindsCard : Claim7 := { stood := { row := receiptFindsRow, standIns := [], harness := (true, "5fb532990d5a8cdb8821bdb22a349ad04a0d9f68691c57600c64c3be3e948d4b"), looks := false }, kinds := [], alts := [], laidByText := true, laidKinds := [.data, .data], laidTests := true, laidLooks := .later }
def ReceiptFindsCardSaid : Prop := Claim7.holds Tryd.pinned (.plain (OpenSpec.ofChange receiptFindsSpec)) receiptFindsCard

/-- THE TIED CARD OF 'waybilllaw17.ReceiptBlooms'. -/
def receiptBloomsCard : Claim7 := { stood := { row := receiptBloomsRow, standIns := [], harness := (true, "5fb532990d5a8cdb8821bdb22a349ad04a0d9f68691c57600c64c3be3e948d4b"), looks := false }, kinds := [], alts := [], laidByText := true, laidKinds := [.data, .data], laidTests := true, laidLooks := .later }
def ReceiptBloomsCardSaid : Prop := Claim7.holds Tryd.pinned (.plain (OpenSpec.ofChange receiptBloomsSpec)) receiptBloomsCard

/-- THE SECOND FORM's CARD OF 'waybilllaw17.ReceiptGas'. -/
def receiptGasUptoCard : Claim7 := { stood := { row := receiptGasUptoRow, standIns := [], harness := (true, "5fb532990d5a8cdb8821bdb22a349ad04a0d9f68691c57600c64c3be3e948d4b"), looks := false }, kinds := [], alts := [], laidByText := true, laidKinds := [.data, .data], laidTests := true, laidLooks := .later }
def ReceiptGasUptoCardSaid : Prop := Claim7.holds Tryd.pinned (.plain (OpenSpec.upto receiptGasSpec)) receiptGasUptoCard

/-- THE SECOND FORM's CARD OF 'waybilllaw17.ReceiptFinds'. -/
def receiptFindsUptoCard : Claim7 := { stood := { row := receiptFindsUptoRow, standIns := [], harness := (true, "5fb532990d5a8cdb8821bdb22a349ad04a0d9f68691c57600c64c3be3e948d4b"), looks := false }, kinds := [], alts := [], laidByText := true, laidKinds := [.data, .data], laidTests := true, laidLooks := .later }
def ReceiptFindsUptoCardSaid : Prop := Claim7.holds Tryd.pinned (.plain (OpenSpec.upto receiptFindsSpec)) receiptFindsUptoCard

/-- THE SECOND FORM's CARD OF 'waybilllaw17.ReceiptBlooms'. -/
def receiptBloomsUptoCard : Claim7 := { stood := { row := receiptBloomsUptoRow, standIns := [], harness := (true, "5fb532990d5a8cdb8821bdb22a349ad04a0d9f68691c57600c64c3be3e948d4b"), looks := false }, kinds := [], alts := [], laidByText := true, laidKinds := [.data, .data], laidTests := true, laidLooks := .later }
def ReceiptBloomsUptoCardSaid : Prop := Claim7.holds Tryd.pinned (.plain (OpenSpec.upto receiptBloomsSpec)) receiptBloomsUptoCard
end Rows
end Go.Proofs.YtmcpljgojdoniaaDoor
