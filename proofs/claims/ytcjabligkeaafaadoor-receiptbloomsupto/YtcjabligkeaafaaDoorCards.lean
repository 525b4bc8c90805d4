/-
  DERIVED. GIVEN WITH THE SEED: THE CARDS: each row of YtcjabligkeaafaaDoorRows.lean that lists a variable, with what it lists TIED to the program's text (the seventh form; the later family's looks); each row that meets fmt, with fmt's text TOLD by the authors' own Lean function (tested against real Go, not proved from fmt's source: count such statements apart). THE CARD IS WHAT COUNTS. Prove the row's statement (the work); the ties are given (YtcjabligkeaafaaDoorTie.lean); close each card by the builder's one call (the guide's Derived/Test/ToyasCard.lean, 'card_holds'). Laid BY PROGRAM, IN A SANDBOX (cutbox-door.mjs). By AI agents, Wed Nov 11 2026. No macro, syntax, notation, axiom, sorry.
-/
import Derived.Test.YtcjabligkeaafaaDoorRows
import GoSem.ClaimSeven
namespace Go.Proofs.YtcjabligkeaafaaDoor
namespace Rows

/-- THE TIED CARD OF 'waybilllaw17.ReceiptBlooms'. -/
def receiptBloomsCard : Claim7 := { stood := { row := receiptBloomsRow, standIns := [], harness := (true, "1399cca09131bf69d111434cef4842b5d1de90a641856cde9f2996fb56cadca2"), looks := false }, kinds := [], alts := [], laidByText := true, laidKinds := [.data, .data], laidTests := true, laidLooks := .later }
def ReceiptBloomsCardSaid : Prop := Claim7.holds Tryd.pinned (.plain (OpenSpec.ofChange receiptBloomsSpec)) receiptBloomsCard

/-- THE SECOND FORM's CARD OF 'waybilllaw17.ReceiptBlooms'. -/
def receiptBloomsUptoCard : Claim7 := { stood := { row := receiptBloomsUptoRow, standIns := [], harness := (true, "1399cca09131bf69d111434cef4842b5d1de90a641856cde9f2996fb56cadca2"), looks := false }, kinds := [], alts := [], laidByText := true, laidKinds := [.data, .data], laidTests := true, laidLooks := .later }
def ReceiptBloomsUptoCardSaid : Prop := Claim7.holds Tryd.pinned (.plain (OpenSpec.upto receiptBloomsSpec)) receiptBloomsUptoCard
end Rows
end Go.Proofs.YtcjabligkeaafaaDoor
