/-
  DERIVED. GIVEN WITH THE SEED: THE CARDS: each row of YtmcodflbngkdcaaDoorRows.lean that lists a variable, with what it lists TIED to the program's text (the seventh form; the later family's looks); each row that meets fmt, with fmt's text TOLD by the authors' own Lean function (tested against real Go, not proved from fmt's source: count such statements apart). THE CARD IS WHAT COUNTS. Prove the row's statement (the work); the ties are given (YtmcodflbngkdcaaDoorTie.lean); close each card by the builder's one call (the guide's Derived/Test/ToyasCard.lean, 'card_holds'). Laid BY PROGRAM, IN A SANDBOX (cutbox-door.mjs). By AI agents, Wed Nov 11 2026. No macro, syntax, notation, axiom, sorry.
-/
import Derived.Test.YtmcodflbngkdcaaDoorRows
import GoSem.ClaimSeven
namespace Go.Proofs.YtmcodflbngkdcaaDoor
namespace Rows

/-- THE TIED CARD OF 'waybilllaw09.AddressPoints'. -/
def addressPointsCard : Claim7 := { stood := { row := addressPointsRow, standIns := [], harness := (true, "dd91470ae51ba9e5a695df233a39b2fc99ad8cf65286dfeb696b67f6167f3d81"), looks := false }, kinds := [], alts := [], laidByText := true, laidKinds := [.data, .data, .data, .data, .data], laidTests := true, laidLooks := .later }
def AddressPointsCardSaid : Prop := Claim7.holds Tryd.pinned (.plain (OpenSpec.ofChange addressPointsSpec)) addressPointsCard

/-- THE SECOND FORM's CARD OF 'waybilllaw09.AddressPoints'. -/
def addressPointsUptoCard : Claim7 := { stood := { row := addressPointsUptoRow, standIns := [], harness := (true, "dd91470ae51ba9e5a695df233a39b2fc99ad8cf65286dfeb696b67f6167f3d81"), looks := false }, kinds := [], alts := [], laidByText := true, laidKinds := [.data, .data, .data, .data, .data], laidTests := true, laidLooks := .later }
def AddressPointsUptoCardSaid : Prop := Claim7.holds Tryd.pinned (.plain (OpenSpec.upto addressPointsSpec)) addressPointsUptoCard
end Rows
end Go.Proofs.YtmcodflbngkdcaaDoor
