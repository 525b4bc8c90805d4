/-
  DERIVED. GIVEN WITH THE SEED: THE CARDS: each row of YtiebnlahhmngcaaGreatDoorRows.lean that lists a variable, with what it lists TIED to the program's text (the seventh form; the later family's looks); each row that meets fmt, with fmt's text TOLD by the authors' own Lean function (tested against real Go, not proved from fmt's source: count such statements apart). THE CARD IS WHAT COUNTS. Prove the row's statement (the work); the ties are given (YtiebnlahhmngcaaGreatDoorTie.lean); close each card by the builder's one call (the guide's Derived/Test/ToyasCard.lean, 'card_holds'). Laid BY PROGRAM, IN A SANDBOX (cutbox-door.mjs). By AI agents, Wed Nov 11 2026. No macro, syntax, notation, axiom, sorry.
-/
import Derived.Test.YtiebnlahhmngcaaGreatDoorRows
import GoSem.ClaimSeven
namespace Go.Proofs.YtiebnlahhmngcaaGreatDoor
namespace Rows

/-- THE TIED CARD OF 'waybilllaw09.AddressMade'. -/
def addressMadeCard : Claim7 := { stood := { row := addressMadeRow, standIns := [], harness := (true, "32c5bca7c762484dbc362a159cee6cdd8a146e96a5a57b9d337039ce8f67e491"), looks := false }, kinds := [], alts := [], laidByText := true, laidKinds := [.data, .data, .data, .data], laidTests := true, laidLooks := .later }
def AddressMadeCardSaid : Prop := Claim7.holds Tryz.pinned (.plain (OpenSpec.ofChange addressMadeSpec)) addressMadeCard

/-- THE SECOND FORM's CARD OF 'waybilllaw09.AddressMade'. -/
def addressMadeUptoCard : Claim7 := { stood := { row := addressMadeUptoRow, standIns := [], harness := (true, "32c5bca7c762484dbc362a159cee6cdd8a146e96a5a57b9d337039ce8f67e491"), looks := false }, kinds := [], alts := [], laidByText := true, laidKinds := [.data, .data, .data, .data], laidTests := true, laidLooks := .later }
def AddressMadeUptoCardSaid : Prop := Claim7.holds Tryz.pinned (.plain (OpenSpec.upto addressMadeSpec)) addressMadeUptoCard
end Rows
end Go.Proofs.YtiebnlahhmngcaaGreatDoor
