/-
  DERIVED. GIVEN WITH THE SEED: THE CARDS: each row of YtmcodflbngkdcaaGreatDoorRows.lean that lists a variable, with what it lists TIED to the program's text (the seventh form; the later family's looks); each row that meets fmt, with fmt's text TOLD by the authors' own Lean function (tested against real Go, not proved from fmt's source: count such statements apart). THE CARD IS WHAT COUNTS. Prove the row's statement (the work); the ties are given (YtmcodflbngkdcaaGreatDoorTie.lean); close each card by the builder's one call (the guide's Derived/Test/ToyasCard.lean, 'card_holds'). Laid BY PROGRAM, IN A SANDBOX (cutbox-door.mjs). By AI agents, Wed Nov 11 2026. No macro, syntax, notation, axiom, sorry.
-/
import Derived.Test.YtmcodflbngkdcaaGreatDoorRows
import GoSem.ClaimSeven
namespace Go.Proofs.YtmcodflbngkdcaaGreatDoor
namespace Rows

/-- THE TIED CARD OF 'waybilllaw09.AddressKeys'. -/
def addressKeysCard : Claim7 := { stood := { row := addressKeysRow, standIns := [], harness := (true, "b1ea640752499f07f7ebd44fc7c0f8d9b17cea9debddd87328b8f54752c56440"), looks := false }, kinds := [], alts := [], laidByText := true, laidKinds := [.data, .data, .data, .data, .data, .data], laidTests := true, laidLooks := .later }
def AddressKeysCardSaid : Prop := Claim7.holds Tryz.pinned (.plain (OpenSpec.ofChange addressKeysSpec)) addressKeysCard

/-- THE SECOND FORM's CARD OF 'waybilllaw09.AddressKeys'. -/
def addressKeysUptoCard : Claim7 := { stood := { row := addressKeysUptoRow, standIns := [], harness := (true, "b1ea640752499f07f7ebd44fc7c0f8d9b17cea9debddd87328b8f54752c56440"), looks := false }, kinds := [], alts := [], laidByText := true, laidKinds := [.data, .data, .data, .data, .data, .data], laidTests := true, laidLooks := .later }
def AddressKeysUptoCardSaid : Prop := Claim7.holds Tryz.pinned (.plain (OpenSpec.upto addressKeysSpec)) addressKeysUptoCard
end Rows
end Go.Proofs.YtmcodflbngkdcaaGreatDoor
