/-
  DERIVED. GIVEN WITH THE SEED: THE CARDS: each row of YtjlilnjggmelgaaDoorRows.lean that lists a variable, with what it lists TIED to the program's text (the seventh form; the later family's looks); each row that meets fmt, with fmt's text TOLD by the authors' own Lean function (tested against real Go, not proved from fmt's source: count such statements apart). THE CARD IS WHAT COUNTS. Prove the row's statement (the work); the ties are given (YtjlilnjggmelgaaDoorTie.lean); close each card by the builder's one call (the guide's Derived/Test/ToyasCard.lean, 'card_holds'). Laid BY PROGRAM, IN A SANDBOX (cutbox-door.mjs). By AI agents, Wed Nov 11 2026. No macro, syntax, notation, axiom, sorry.
-/
import Derived.Test.YtjlilnjggmelgaaDoorRows
import GoSem.ClaimSeven
namespace Go.Proofs.YtjlilnjggmelgaaDoor
namespace Rows

/-- THE TIED CARD OF 'waybilllaw05.CurveParses'. -/
def curveParsesCard : Claim7 := { stood := { row := curveParsesRow, standIns := [], harness := (true, "d1fa7922a7f73c626a05cbf6c7c608e6f560e21ace3d0c563b1d1cd0ad07628d"), looks := false }, kinds := [], alts := [], laidByText := true, laidKinds := [.data], laidTests := true, laidLooks := .later }
def CurveParsesCardSaid : Prop := Claim7.holds Tryd.pinned (.plain (OpenSpec.ofChange curveParsesSpec)) curveParsesCard

/-- THE SECOND FORM's CARD OF 'waybilllaw05.CurveParses'. -/
def curveParsesUptoCard : Claim7 := { stood := { row := curveParsesUptoRow, standIns := [], harness := (true, "d1fa7922a7f73c626a05cbf6c7c608e6f560e21ace3d0c563b1d1cd0ad07628d"), looks := false }, kinds := [], alts := [], laidByText := true, laidKinds := [.data], laidTests := true, laidLooks := .later }
def CurveParsesUptoCardSaid : Prop := Claim7.holds Tryd.pinned (.plain (OpenSpec.upto curveParsesSpec)) curveParsesUptoCard
end Rows
end Go.Proofs.YtjlilnjggmelgaaDoor
