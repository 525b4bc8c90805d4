/-
  DERIVED. GIVEN WITH THE SEED: THE CARDS: each row of YtleneapnjanbbaaDoorRows.lean that lists a variable, with what it lists TIED to the program's text (the seventh form; the later family's looks); each row that meets fmt, with fmt's text TOLD by the authors' own Lean function (tested against real Go, not proved from fmt's source: count such statements apart). THE CARD IS WHAT COUNTS. Prove the row's statement (the work); the ties are given (YtleneapnjanbbaaDoorTie.lean); close each card by the builder's one call (the guide's Derived/Test/ToyasCard.lean, 'card_holds'). Laid BY PROGRAM, IN A SANDBOX (cutbox-door.mjs). By AI agents, Wed Nov 11 2026. No macro, syntax, notation, axiom, sorry.
-/
import Derived.Test.YtleneapnjanbbaaDoorRows
import GoSem.ClaimSeven
namespace Go.Proofs.YtleneapnjanbbaaDoor
namespace Rows

/-- THE TIED CARD OF 'waybilllaw05.CurveOne'. -/
def curveOneCard : Claim7 := { stood := { row := curveOneRow, standIns := [], harness := (true, "7e964342e15f7309150bfd5da66870585b9d34e987156a58b72812346a22042e"), looks := false }, kinds := [], alts := [], laidByText := true, laidKinds := [.data, .data], laidTests := true, laidLooks := .later }
def CurveOneCardSaid : Prop := Claim7.holds Tryd.pinned (.plain (OpenSpec.ofChange curveOneSpec)) curveOneCard

/-- THE SECOND FORM's CARD OF 'waybilllaw05.CurveOne'. -/
def curveOneUptoCard : Claim7 := { stood := { row := curveOneUptoRow, standIns := [], harness := (true, "7e964342e15f7309150bfd5da66870585b9d34e987156a58b72812346a22042e"), looks := false }, kinds := [], alts := [], laidByText := true, laidKinds := [.data, .data], laidTests := true, laidLooks := .later }
def CurveOneUptoCardSaid : Prop := Claim7.holds Tryd.pinned (.plain (OpenSpec.upto curveOneSpec)) curveOneUptoCard
end Rows
end Go.Proofs.YtleneapnjanbbaaDoor
