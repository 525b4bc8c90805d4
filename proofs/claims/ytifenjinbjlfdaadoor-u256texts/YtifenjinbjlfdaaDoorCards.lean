/-
  DERIVED. GIVEN WITH THE SEED: THE CARDS: each row of YtifenjinbjlfdaaDoorRows.lean that lists a variable, with what it lists TIED to the program's text (the seventh form; the later family's looks); each row that meets fmt, with fmt's text TOLD by the authors' own Lean function (tested against real Go, not proved from fmt's source: count such statements apart). THE CARD IS WHAT COUNTS. Prove the row's statement (the work); the ties are given (YtifenjinbjlfdaaDoorTie.lean); close each card by the builder's one call (the guide's Derived/Test/ToyasCard.lean, 'card_holds'). Laid BY PROGRAM, IN A SANDBOX (cutbox-door.mjs). By AI agents, Wed Nov 11 2026. No macro, syntax, notation, axiom, sorry.
-/
import Derived.Test.YtifenjinbjlfdaaDoorRows
import GoSem.ClaimSeven
namespace Go.Proofs.YtifenjinbjlfdaaDoor
namespace Rows

/-- THE TIED CARD OF 'waybilllaw01.U256Texts'. -/
def u256TextsCard : Claim7 := { stood := { row := u256TextsRow, standIns := [], harness := (true, "16bd3416133a9f333a36d539a402773533aa6b3893c6377a193d309ef2ba07ec"), looks := false }, kinds := [], alts := [], laidByText := true, laidKinds := [.data], laidTests := true, laidLooks := .later }
def U256TextsCardSaid : Prop := Claim7.holds Tryd.pinned (.plain (OpenSpec.ofChange u256TextsSpec)) u256TextsCard

/-- THE SECOND FORM's CARD OF 'waybilllaw01.U256Texts'. -/
def u256TextsUptoCard : Claim7 := { stood := { row := u256TextsUptoRow, standIns := [], harness := (true, "16bd3416133a9f333a36d539a402773533aa6b3893c6377a193d309ef2ba07ec"), looks := false }, kinds := [], alts := [], laidByText := true, laidKinds := [.data], laidTests := true, laidLooks := .later }
def U256TextsUptoCardSaid : Prop := Claim7.holds Tryd.pinned (.plain (OpenSpec.upto u256TextsSpec)) u256TextsUptoCard
end Rows
end Go.Proofs.YtifenjinbjlfdaaDoor
