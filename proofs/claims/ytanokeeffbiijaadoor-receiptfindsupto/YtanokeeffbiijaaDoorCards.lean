/-
  DERIVED. GIVEN WITH THE SEED: THE CARDS: each row of YtanokeeffbiijaaDoorRows.lean that lists a variable, with what it lists TIED to the program's text (the seventh form; the later family's looks); each row that meets fmt, with fmt's text TOLD by the authors' own Lean function (tested against real Go, not proved from fmt's source: count such statements apart). THE CARD IS WHAT COUNTS. Prove the row's statement (the work); the ties are given (YtanokeeffbiijaaDoorTie.lean); close each card by the builder's one call (the guide's Derived/Test/ToyasCard.lean, 'card_holds'). Laid BY PROGRAM, IN A SANDBOX (cutbox-door.mjs). By AI agents, Wed Nov 11 2026. No macro, syntax, notation, axiom, sorry.
-/
import Derived.Test.YtanokeeffbiijaaDoorRows
import GoSem.ClaimSeven
namespace Go.Proofs.YtanokeeffbiijaaDoor
namespace Rows

/-- THE TIED CARD OF 'waybilllaw17.ReceiptFinds'. -/
def receiptFindsCard : Claim7 := { stood := { row := receiptFindsRow, standIns := [], harness := (true, "b5371f8fbb464a7117c0c92e2b89d12efc1e85c1db958ea0ceb5680ac39c7022"), looks := false }, kinds := [], alts := [], laidByText := true, laidKinds := [.data, .data], laidTests := true, laidLooks := .later }
def ReceiptFindsCardSaid : Prop := Claim7.holds Tryd.pinned (.plain (OpenSpec.ofChange receiptFindsSpec)) receiptFindsCard

/-- THE TIED CARD OF 'waybilllaw17.ReceiptBlooms'. -/
def receiptBloomsCard : Claim7 := { stood := { row := receiptBloomsRow, standIns := [], harness := (true, "b5371f8fbb464a7117c0c92e2b89d12efc1e85c1db958ea0ceb5680ac39c7022"), looks := false }, kinds := [], alts := [], laidByText := true, laidKinds := [.data, .data], laidTests := true, laidLooks := .later }
def ReceiptBloomsCardSaid : Prop := Claim7.holds Tryd.pinned (.plain (OpenSpec.ofChange receiptBloomsSpec)) receiptBloomsCard

/-- THE SECOND FORM's CARD OF 'waybilllaw17.ReceiptFinds'. -/
def receiptFindsUptoCard : Claim7 := { stood := { row := receiptFindsUptoRow, standIns := [], harness := (true, "b5371f8fbb464a7117c0c92e2b89d12efc1e85c1db958ea0ceb5680ac39c7022"), looks := false }, kinds := [], alts := [], laidByText := true, laidKinds := [.data, .data], laidTests := true, laidLooks := .later }
def ReceiptFindsUptoCardSaid : Prop := Claim7.holds Tryd.pinned (.plain (OpenSpec.upto receiptFindsSpec)) receiptFindsUptoCard

/-- THE SECOND FORM's CARD OF 'waybilllaw17.ReceiptBlooms'. -/
def receiptBloomsUptoCard : Claim7 := { stood := { row := receiptBloomsUptoRow, standIns := [], harness := (true, "b5371f8fbb464a7117c0c92e2b89d12efc1e85c1db958ea0ceb5680ac39c7022"), looks := false }, kinds := [], alts := [], laidByText := true, laidKinds := [.data, .data], laidTests := true, laidLooks := .later }
def ReceiptBloomsUptoCardSaid : Prop := Claim7.holds Tryd.pinned (.plain (OpenSpec.upto receiptBloomsSpec)) receiptBloomsUptoCard
end Rows
end Go.Proofs.YtanokeeffbiijaaDoor
