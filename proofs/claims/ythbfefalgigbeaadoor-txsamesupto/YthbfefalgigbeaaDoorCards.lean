/-
  DERIVED. GIVEN WITH THE SEED: THE CARDS: each row of YthbfefalgigbeaaDoorRows.lean that lists a variable, with what it lists TIED to the program's text (the seventh form; the later family's looks); each row that meets fmt, with fmt's text TOLD by the authors' own Lean function (tested against real Go, not proved from fmt's source: count such statements apart). THE CARD IS WHAT COUNTS. Prove the row's statement (the work); the ties are given (YthbfefalgigbeaaDoorTie.lean); close each card by the builder's one call (the guide's Derived/Test/ToyasCard.lean, 'card_holds'). Laid BY PROGRAM, IN A SANDBOX (cutbox-door.mjs). By AI agents, Wed Nov 11 2026. No macro, syntax, notation, axiom, sorry.
-/
import Derived.Test.YthbfefalgigbeaaDoorRows
import GoSem.ClaimSeven
namespace Go.Proofs.YthbfefalgigbeaaDoor
namespace Rows

/-- THE TIED CARD OF 'waybilllaw15.TxSames'. -/
def txSamesCard : Claim7 := { stood := { row := txSamesRow, standIns := [], harness := (true, "d085c8266ac8131e30e205ed9661fcc02ab2d7987945c0b4db16eab29c269aca"), looks := false }, kinds := [], alts := [], laidByText := true, laidKinds := [.data, .data], laidTests := true, laidLooks := .later }
def TxSamesCardSaid : Prop := Claim7.holds Tryd.pinned (.plain (OpenSpec.ofChange txSamesSpec)) txSamesCard

/-- THE SECOND FORM's CARD OF 'waybilllaw15.TxSames'. -/
def txSamesUptoCard : Claim7 := { stood := { row := txSamesUptoRow, standIns := [], harness := (true, "d085c8266ac8131e30e205ed9661fcc02ab2d7987945c0b4db16eab29c269aca"), looks := false }, kinds := [], alts := [], laidByText := true, laidKinds := [.data, .data], laidTests := true, laidLooks := .later }
def TxSamesUptoCardSaid : Prop := Claim7.holds Tryd.pinned (.plain (OpenSpec.upto txSamesSpec)) txSamesUptoCard
end Rows
end Go.Proofs.YthbfefalgigbeaaDoor
