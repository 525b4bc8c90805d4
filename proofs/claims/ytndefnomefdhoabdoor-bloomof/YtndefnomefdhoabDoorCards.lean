/-
  DERIVED. GIVEN WITH THE SEED: THE CARDS: each row of YtndefnomefdhoabDoorRows.lean that lists a variable, with what it lists TIED to the program's text (the seventh form; the later family's looks); each row that meets fmt, with fmt's text TOLD by the authors' own Lean function (tested against real Go, not proved from fmt's source: count such statements apart). THE CARD IS WHAT COUNTS. Prove the row's statement (the work); the ties are given (YtndefnomefdhoabDoorTie.lean); close each card by the builder's one call (the guide's Derived/Test/ToyasCard.lean, 'card_holds'). Laid BY PROGRAM, IN A SANDBOX (cutbox-door.mjs). By AI agents, Wed Nov 11 2026. No macro, syntax, notation, axiom, sorry.
-/
import Derived.Test.YtndefnomefdhoabDoorRows
import GoSem.ClaimSeven
namespace Go.Proofs.YtndefnomefdhoabDoor
namespace Rows

/-- THE TIED CARD OF 'waybilllaw10.BloomOf'. -/
def bloomOfCard : Claim7 := { stood := { row := bloomOfRow, standIns := [], harness := (true, "ac08af6fcfb621b170318376e0b0072606734255eb9c867b58ebd48019b42889"), looks := false }, kinds := [], alts := [], laidByText := true, laidKinds := [.data, .data, .data, .data], laidTests := true, laidLooks := .later }
def BloomOfCardSaid : Prop := Claim7.holds Tryd.pinned (.plain (OpenSpec.ofChange bloomOfSpec)) bloomOfCard

/-- THE TIED CARD OF 'waybilllaw10.BloomMany'. -/
def bloomManyCard : Claim7 := { stood := { row := bloomManyRow, standIns := [], harness := (true, "ac08af6fcfb621b170318376e0b0072606734255eb9c867b58ebd48019b42889"), looks := false }, kinds := [], alts := [], goes := true, laidByText := true, laidKinds := [.data, .data, .data, .data], laidTests := true, laidLooks := .later }
def BloomManyCardSaid : Prop := Claim7.holds Tryd.pinned (.plain (OpenSpec.ofChange bloomManySpec)) bloomManyCard

/-- THE SECOND FORM's CARD OF 'waybilllaw10.BloomOf'. -/
def bloomOfUptoCard : Claim7 := { stood := { row := bloomOfUptoRow, standIns := [], harness := (true, "ac08af6fcfb621b170318376e0b0072606734255eb9c867b58ebd48019b42889"), looks := false }, kinds := [], alts := [], laidByText := true, laidKinds := [.data, .data, .data, .data], laidTests := true, laidLooks := .later }
def BloomOfUptoCardSaid : Prop := Claim7.holds Tryd.pinned (.plain (OpenSpec.upto bloomOfSpec)) bloomOfUptoCard

/-- THE SECOND FORM's CARD OF 'waybilllaw10.BloomMany'. -/
def bloomManyUptoCard : Claim7 := { stood := { row := bloomManyUptoRow, standIns := [], harness := (true, "ac08af6fcfb621b170318376e0b0072606734255eb9c867b58ebd48019b42889"), looks := false }, kinds := [], alts := [], goes := true, laidByText := true, laidKinds := [.data, .data, .data, .data], laidTests := true, laidLooks := .later }
def BloomManyUptoCardSaid : Prop := Claim7.holds Tryd.pinned (.plain (OpenSpec.upto bloomManySpec)) bloomManyUptoCard
end Rows
end Go.Proofs.YtndefnomefdhoabDoor
