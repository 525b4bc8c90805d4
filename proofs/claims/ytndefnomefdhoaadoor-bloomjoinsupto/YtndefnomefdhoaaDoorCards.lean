/-
  DERIVED. GIVEN WITH THE SEED: THE CARDS: each row of YtndefnomefdhoaaDoorRows.lean that lists a variable, with what it lists TIED to the program's text (the seventh form; the later family's looks); each row that meets fmt, with fmt's text TOLD by the authors' own Lean function (tested against real Go, not proved from fmt's source: count such statements apart). THE CARD IS WHAT COUNTS. Prove the row's statement (the work); the ties are given (YtndefnomefdhoaaDoorTie.lean); close each card by the builder's one call (the guide's Derived/Test/ToyasCard.lean, 'card_holds'). Laid BY PROGRAM, IN A SANDBOX (cutbox-door.mjs). By AI agents, Wed Nov 11 2026. No macro, syntax, notation, axiom, sorry.
-/
import Derived.Test.YtndefnomefdhoaaDoorRows
import GoSem.ClaimSeven
namespace Go.Proofs.YtndefnomefdhoaaDoor
namespace Rows

/-- THE TIED CARD OF 'waybilllaw10.BloomHolds'. -/
def bloomHoldsCard : Claim7 := { stood := { row := bloomHoldsRow, standIns := [], harness := (true, "8effeaf1dcac009b644e7438ff75598c971bcc8b2ca07099b90e542ce1a96abf"), looks := false }, kinds := [], alts := [], laidByText := true, laidKinds := [.data, .data], laidTests := true, laidLooks := .later }
def BloomHoldsCardSaid : Prop := Claim7.holds Tryd.pinned (.plain (OpenSpec.ofChange bloomHoldsSpec)) bloomHoldsCard

/-- THE TIED CARD OF 'waybilllaw10.BloomJoins'. -/
def bloomJoinsCard : Claim7 := { stood := { row := bloomJoinsRow, standIns := [], harness := (true, "8effeaf1dcac009b644e7438ff75598c971bcc8b2ca07099b90e542ce1a96abf"), looks := false }, kinds := [], alts := [], laidByText := true, laidKinds := [.data, .data], laidTests := true, laidLooks := .later }
def BloomJoinsCardSaid : Prop := Claim7.holds Tryd.pinned (.plain (OpenSpec.ofChange bloomJoinsSpec)) bloomJoinsCard

/-- THE TIED CARD OF 'waybilllaw10.BloomAdds'. -/
def bloomAddsCard : Claim7 := { stood := { row := bloomAddsRow, standIns := [], harness := (true, "8effeaf1dcac009b644e7438ff75598c971bcc8b2ca07099b90e542ce1a96abf"), looks := false }, kinds := [], alts := [], laidByText := true, laidKinds := [.data, .data, .data, .data], laidTests := true, laidLooks := .later }
def BloomAddsCardSaid : Prop := Claim7.holds Tryd.pinned (.plain (OpenSpec.ofChange bloomAddsSpec)) bloomAddsCard

/-- THE SECOND FORM's CARD OF 'waybilllaw10.BloomHolds'. -/
def bloomHoldsUptoCard : Claim7 := { stood := { row := bloomHoldsUptoRow, standIns := [], harness := (true, "8effeaf1dcac009b644e7438ff75598c971bcc8b2ca07099b90e542ce1a96abf"), looks := false }, kinds := [], alts := [], laidByText := true, laidKinds := [.data, .data], laidTests := true, laidLooks := .later }
def BloomHoldsUptoCardSaid : Prop := Claim7.holds Tryd.pinned (.plain (OpenSpec.upto bloomHoldsSpec)) bloomHoldsUptoCard

/-- THE SECOND FORM's CARD OF 'waybilllaw10.BloomJoins'. -/
def bloomJoinsUptoCard : Claim7 := { stood := { row := bloomJoinsUptoRow, standIns := [], harness := (true, "8effeaf1dcac009b644e7438ff75598c971bcc8b2ca07099b90e542ce1a96abf"), looks := false }, kinds := [], alts := [], laidByText := true, laidKinds := [.data, .data], laidTests := true, laidLooks := .later }
def BloomJoinsUptoCardSaid : Prop := Claim7.holds Tryd.pinned (.plain (OpenSpec.upto bloomJoinsSpec)) bloomJoinsUptoCard

/-- THE SECOND FORM's CARD OF 'waybilllaw10.BloomAdds'. -/
def bloomAddsUptoCard : Claim7 := { stood := { row := bloomAddsUptoRow, standIns := [], harness := (true, "8effeaf1dcac009b644e7438ff75598c971bcc8b2ca07099b90e542ce1a96abf"), looks := false }, kinds := [], alts := [], laidByText := true, laidKinds := [.data, .data, .data, .data], laidTests := true, laidLooks := .later }
def BloomAddsUptoCardSaid : Prop := Claim7.holds Tryd.pinned (.plain (OpenSpec.upto bloomAddsSpec)) bloomAddsUptoCard
end Rows
end Go.Proofs.YtndefnomefdhoaaDoor
