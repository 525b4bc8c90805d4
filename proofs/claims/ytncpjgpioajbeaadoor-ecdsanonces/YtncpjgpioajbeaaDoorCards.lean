/-
  DERIVED. GIVEN WITH THE SEED: THE CARDS: each row of YtncpjgpioajbeaaDoorRows.lean that lists a variable, with what it lists TIED to the program's text (the seventh form; the later family's looks); each row that meets fmt, with fmt's text TOLD by the authors' own Lean function (tested against real Go, not proved from fmt's source: count such statements apart). THE CARD IS WHAT COUNTS. Prove the row's statement (the work); the ties are given (YtncpjgpioajbeaaDoorTie.lean); close each card by the builder's one call (the guide's Derived/Test/ToyasCard.lean, 'card_holds'). Laid BY PROGRAM, IN A SANDBOX (cutbox-door.mjs). By AI agents, Wed Nov 11 2026. No macro, syntax, notation, axiom, sorry.
-/
import Derived.Test.YtncpjgpioajbeaaDoorRows
import GoSem.ClaimSeven
namespace Go.Proofs.YtncpjgpioajbeaaDoor
namespace Rows

/-- THE TIED CARD OF 'waybilllaw06.EcdsaNonces'. -/
def ecdsaNoncesCard : Claim7 := { stood := { row := ecdsaNoncesRow, standIns := [], harness := (true, "65981a497873452536e2174c97f0402b906b2d026ea53981c00267eb0288a19f"), looks := false }, kinds := [], alts := [], laidByText := true, laidKinds := [.data, .data, .data], laidTests := true, laidLooks := .later }
def EcdsaNoncesCardSaid : Prop := Claim7.holds Tryd.pinned (.plain (OpenSpec.ofChange ecdsaNoncesSpec)) ecdsaNoncesCard

/-- THE SECOND FORM's CARD OF 'waybilllaw06.EcdsaNonces'. -/
def ecdsaNoncesUptoCard : Claim7 := { stood := { row := ecdsaNoncesUptoRow, standIns := [], harness := (true, "65981a497873452536e2174c97f0402b906b2d026ea53981c00267eb0288a19f"), looks := false }, kinds := [], alts := [], laidByText := true, laidKinds := [.data, .data, .data], laidTests := true, laidLooks := .later }
def EcdsaNoncesUptoCardSaid : Prop := Claim7.holds Tryd.pinned (.plain (OpenSpec.upto ecdsaNoncesSpec)) ecdsaNoncesUptoCard
end Rows
end Go.Proofs.YtncpjgpioajbeaaDoor
