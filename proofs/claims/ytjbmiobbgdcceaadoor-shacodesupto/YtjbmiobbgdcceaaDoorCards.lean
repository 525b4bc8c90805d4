/-
  DERIVED. GIVEN WITH THE SEED: THE CARDS: each row of YtjbmiobbgdcceaaDoorRows.lean that lists a variable, with what it lists TIED to the program's text (the seventh form; the later family's looks); each row that meets fmt, with fmt's text TOLD by the authors' own Lean function (tested against real Go, not proved from fmt's source: count such statements apart). THE CARD IS WHAT COUNTS. Prove the row's statement (the work); the ties are given (YtjbmiobbgdcceaaDoorTie.lean); close each card by the builder's one call (the guide's Derived/Test/ToyasCard.lean, 'card_holds'). Laid BY PROGRAM, IN A SANDBOX (cutbox-door.mjs). By AI agents, Wed Nov 11 2026. No macro, syntax, notation, axiom, sorry.
-/
import Derived.Test.YtjbmiobbgdcceaaDoorRows
import GoSem.ClaimSeven
namespace Go.Proofs.YtjbmiobbgdcceaaDoor
namespace Rows

/-- THE TIED CARD OF 'waybilllaw03.ShaCodes'. -/
def shaCodesCard : Claim7 := { stood := { row := shaCodesRow, standIns := [], harness := (true, "141bc98f4a20ba06be9c044cd25c7b0f5afe91b778490d13d4d43825b0fac3b0"), looks := false }, kinds := [], alts := [], laidByText := true, laidKinds := [.data, .data], laidTests := true, laidLooks := .later }
def ShaCodesCardSaid : Prop := Claim7.holds Tryd.pinned (.plain (OpenSpec.ofChange shaCodesSpec)) shaCodesCard

/-- THE SECOND FORM's CARD OF 'waybilllaw03.ShaCodes'. -/
def shaCodesUptoCard : Claim7 := { stood := { row := shaCodesUptoRow, standIns := [], harness := (true, "141bc98f4a20ba06be9c044cd25c7b0f5afe91b778490d13d4d43825b0fac3b0"), looks := false }, kinds := [], alts := [], laidByText := true, laidKinds := [.data, .data], laidTests := true, laidLooks := .later }
def ShaCodesUptoCardSaid : Prop := Claim7.holds Tryd.pinned (.plain (OpenSpec.upto shaCodesSpec)) shaCodesUptoCard
end Rows
end Go.Proofs.YtjbmiobbgdcceaaDoor
