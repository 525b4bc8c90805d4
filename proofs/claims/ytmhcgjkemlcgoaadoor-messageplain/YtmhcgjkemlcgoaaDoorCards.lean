/-
  DERIVED. GIVEN WITH THE SEED: THE CARDS: each row of YtmhcgjkemlcgoaaDoorRows.lean that lists a variable, with what it lists TIED to the program's text (the seventh form; the later family's looks); each row that meets fmt, with fmt's text TOLD by the authors' own Lean function (tested against real Go, not proved from fmt's source: count such statements apart). THE CARD IS WHAT COUNTS. Prove the row's statement (the work); the ties are given (YtmhcgjkemlcgoaaDoorTie.lean); close each card by the builder's one call (the guide's Derived/Test/ToyasCard.lean, 'card_holds'). Laid BY PROGRAM, IN A SANDBOX (cutbox-door.mjs). By AI agents, Wed Nov 11 2026. No macro, syntax, notation, axiom, sorry.
-/
import Derived.Test.YtmhcgjkemlcgoaaDoorRows
import GoSem.ClaimSeven
namespace Go.Proofs.YtmhcgjkemlcgoaaDoor
namespace Rows

/-- THE TIED CARD OF 'waybilllaw23.MessagePlain'. -/
def messagePlainCard : Claim7 := { stood := { row := messagePlainRow, standIns := [], harness := (true, "de4e522bb436016dc2d6df587ab7dd57717a16e116313f53c955b82c7705a0f7"), looks := false }, kinds := [], alts := [], laidByText := true, laidKinds := [.data, .data, .data, .data, .data, .data, .data], laidTests := true, laidLooks := .later }
def MessagePlainCardSaid : Prop := Claim7.holds Tryd.pinned (.plain (OpenSpec.ofChange messagePlainSpec)) messagePlainCard

/-- THE SECOND FORM's CARD OF 'waybilllaw23.MessagePlain'. -/
def messagePlainUptoCard : Claim7 := { stood := { row := messagePlainUptoRow, standIns := [], harness := (true, "de4e522bb436016dc2d6df587ab7dd57717a16e116313f53c955b82c7705a0f7"), looks := false }, kinds := [], alts := [], laidByText := true, laidKinds := [.data, .data, .data, .data, .data, .data, .data], laidTests := true, laidLooks := .later }
def MessagePlainUptoCardSaid : Prop := Claim7.holds Tryd.pinned (.plain (OpenSpec.upto messagePlainSpec)) messagePlainUptoCard
end Rows
end Go.Proofs.YtmhcgjkemlcgoaaDoor
