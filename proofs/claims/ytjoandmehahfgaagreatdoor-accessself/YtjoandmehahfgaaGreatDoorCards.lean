/-
  DERIVED. GIVEN WITH THE SEED: THE CARDS: each row of YtjoandmehahfgaaGreatDoorRows.lean that lists a variable, with what it lists TIED to the program's text (the seventh form; the later family's looks); each row that meets fmt, with fmt's text TOLD by the authors' own Lean function (tested against real Go, not proved from fmt's source: count such statements apart). THE CARD IS WHAT COUNTS. Prove the row's statement (the work); the ties are given (YtjoandmehahfgaaGreatDoorTie.lean); close each card by the builder's one call (the guide's Derived/Test/ToyasCard.lean, 'card_holds'). Laid BY PROGRAM, IN A SANDBOX (cutbox-door.mjs). By AI agents, Wed Nov 11 2026. No macro, syntax, notation, axiom, sorry.
-/
import Derived.Test.YtjoandmehahfgaaGreatDoorRows
import GoSem.ClaimSeven
namespace Go.Proofs.YtjoandmehahfgaaGreatDoor
namespace Rows

/-- THE TIED CARD OF 'waybilllaw14.AccessSelf'. -/
def accessSelfCard : Claim7 := { stood := { row := accessSelfRow, standIns := [], harness := (true, "d987dd7b03d92c14242494926fe1afff634b1ce2d18cac6d1b53d89d11158181"), looks := false }, kinds := [], alts := [], laidByText := true, laidKinds := [.data, .data, .data, .data, .data, .data], laidTests := true, laidLooks := .later }
def AccessSelfCardSaid : Prop := Claim7.holds Tryz.pinned (.plain (OpenSpec.ofChange accessSelfSpec)) accessSelfCard

/-- THE SECOND FORM's CARD OF 'waybilllaw14.AccessSelf'. -/
def accessSelfUptoCard : Claim7 := { stood := { row := accessSelfUptoRow, standIns := [], harness := (true, "d987dd7b03d92c14242494926fe1afff634b1ce2d18cac6d1b53d89d11158181"), looks := false }, kinds := [], alts := [], laidByText := true, laidKinds := [.data, .data, .data, .data, .data, .data], laidTests := true, laidLooks := .later }
def AccessSelfUptoCardSaid : Prop := Claim7.holds Tryz.pinned (.plain (OpenSpec.upto accessSelfSpec)) accessSelfUptoCard
end Rows
end Go.Proofs.YtjoandmehahfgaaGreatDoor
