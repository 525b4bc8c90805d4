/-
  DERIVED. GIVEN WITH THE SEED: THE CARDS: each row of YtmpggpkokniemaaDoorRows.lean that lists a variable, with what it lists TIED to the program's text (the seventh form; the later family's looks); each row that meets fmt, with fmt's text TOLD by the authors' own Lean function (tested against real Go, not proved from fmt's source: count such statements apart). THE CARD IS WHAT COUNTS. Prove the row's statement (the work); the ties are given (YtmpggpkokniemaaDoorTie.lean); close each card by the builder's one call (the guide's Derived/Test/ToyasCard.lean, 'card_holds'). Laid BY PROGRAM, IN A SANDBOX (cutbox-door.mjs). By AI agents, Wed Nov 11 2026. No macro, syntax, notation, axiom, sorry.
-/
import Derived.Test.YtmpggpkokniemaaDoorRows
import GoSem.ClaimSeven
namespace Go.Proofs.YtmpggpkokniemaaDoor
namespace Rows

/-- THE TIED CARD OF 'waybilllaw06.EcdsaBytes'. -/
def ecdsaBytesCard : Claim7 := { stood := { row := ecdsaBytesRow, standIns := [], harness := (true, "55317b504d01c7807009291e7009724e38d35e1b713e2a1a6a4d468722e0bcba"), looks := false }, kinds := [], alts := [], laidByText := true, laidKinds := [.data], laidTests := true, laidLooks := .later }
def EcdsaBytesCardSaid : Prop := Claim7.holds Tryd.pinned (.plain (OpenSpec.ofChange ecdsaBytesSpec)) ecdsaBytesCard

/-- THE SECOND FORM's CARD OF 'waybilllaw06.EcdsaBytes'. -/
def ecdsaBytesUptoCard : Claim7 := { stood := { row := ecdsaBytesUptoRow, standIns := [], harness := (true, "55317b504d01c7807009291e7009724e38d35e1b713e2a1a6a4d468722e0bcba"), looks := false }, kinds := [], alts := [], laidByText := true, laidKinds := [.data], laidTests := true, laidLooks := .later }
def EcdsaBytesUptoCardSaid : Prop := Claim7.holds Tryd.pinned (.plain (OpenSpec.upto ecdsaBytesSpec)) ecdsaBytesUptoCard
end Rows
end Go.Proofs.YtmpggpkokniemaaDoor
