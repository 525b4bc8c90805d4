/-
  DERIVED. GIVEN WITH THE SEED: THE CARDS: each row of YtncpjgpioajbeaaGreatDoorRows.lean that lists a variable, with what it lists TIED to the program's text (the seventh form; the later family's looks); each row that meets fmt, with fmt's text TOLD by the authors' own Lean function (tested against real Go, not proved from fmt's source: count such statements apart). THE CARD IS WHAT COUNTS. Prove the row's statement (the work); the ties are given (YtncpjgpioajbeaaGreatDoorTie.lean); close each card by the builder's one call (the guide's Derived/Test/ToyasCard.lean, 'card_holds'). Laid BY PROGRAM, IN A SANDBOX (cutbox-door.mjs). By AI agents, Wed Nov 11 2026. No macro, syntax, notation, axiom, sorry.
-/
import Derived.Test.YtncpjgpioajbeaaGreatDoorRows
import GoSem.ClaimSeven
namespace Go.Proofs.YtncpjgpioajbeaaGreatDoor
namespace Rows

/-- THE TIED CARD OF 'waybilllaw06.EcdsaGenuine'. -/
def ecdsaGenuineCard : Claim7 := { stood := { row := ecdsaGenuineRow, standIns := [], harness := (true, "fba9a0145358df21e3ca05f97eb5c2b16725c9a887008a32da5085ad3bc0a615"), looks := false }, kinds := [], alts := [], laidByText := true, laidKinds := [.data, .data, .data, .data], laidTests := true, laidLooks := .later }
def EcdsaGenuineCardSaid : Prop := Claim7.holds Tryz.pinned (.plain (OpenSpec.ofChange ecdsaGenuineSpec)) ecdsaGenuineCard

/-- THE TIED CARD OF 'waybilllaw06.EcdsaSigns'. -/
def ecdsaSignsCard : Claim7 := { stood := { row := ecdsaSignsRow, standIns := [], harness := (true, "fba9a0145358df21e3ca05f97eb5c2b16725c9a887008a32da5085ad3bc0a615"), looks := false }, kinds := [], alts := [], laidByText := true, laidKinds := [.data, .data, .data, .data], laidTests := true, laidLooks := .later }
def EcdsaSignsCardSaid : Prop := Claim7.holds Tryz.pinned (.plain (OpenSpec.ofChange ecdsaSignsSpec)) ecdsaSignsCard

/-- THE SECOND FORM's CARD OF 'waybilllaw06.EcdsaGenuine'. -/
def ecdsaGenuineUptoCard : Claim7 := { stood := { row := ecdsaGenuineUptoRow, standIns := [], harness := (true, "fba9a0145358df21e3ca05f97eb5c2b16725c9a887008a32da5085ad3bc0a615"), looks := false }, kinds := [], alts := [], laidByText := true, laidKinds := [.data, .data, .data, .data], laidTests := true, laidLooks := .later }
def EcdsaGenuineUptoCardSaid : Prop := Claim7.holds Tryz.pinned (.plain (OpenSpec.upto ecdsaGenuineSpec)) ecdsaGenuineUptoCard

/-- THE SECOND FORM's CARD OF 'waybilllaw06.EcdsaSigns'. -/
def ecdsaSignsUptoCard : Claim7 := { stood := { row := ecdsaSignsUptoRow, standIns := [], harness := (true, "fba9a0145358df21e3ca05f97eb5c2b16725c9a887008a32da5085ad3bc0a615"), looks := false }, kinds := [], alts := [], laidByText := true, laidKinds := [.data, .data, .data, .data], laidTests := true, laidLooks := .later }
def EcdsaSignsUptoCardSaid : Prop := Claim7.holds Tryz.pinned (.plain (OpenSpec.upto ecdsaSignsSpec)) ecdsaSignsUptoCard
end Rows
end Go.Proofs.YtncpjgpioajbeaaGreatDoor
