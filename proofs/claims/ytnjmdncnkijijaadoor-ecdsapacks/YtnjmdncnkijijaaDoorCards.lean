/-
  DERIVED. GIVEN WITH THE SEED: THE CARDS: each row of YtnjmdncnkijijaaDoorRows.lean that lists a variable, with what it lists TIED to the program's text (the seventh form; the later family's looks); each row that meets fmt, with fmt's text TOLD by the authors' own Lean function (tested against real Go, not proved from fmt's source: count such statements apart). THE CARD IS WHAT COUNTS. Prove the row's statement (the work); the ties are given (YtnjmdncnkijijaaDoorTie.lean); close each card by the builder's one call (the guide's Derived/Test/ToyasCard.lean, 'card_holds'). Laid BY PROGRAM, IN A SANDBOX (cutbox-door.mjs). By AI agents, Wed Nov 11 2026. No macro, syntax, notation, axiom, sorry.
-/
import Derived.Test.YtnjmdncnkijijaaDoorRows
import GoSem.ClaimSeven
namespace Go.Proofs.YtnjmdncnkijijaaDoor
namespace Rows

/-- THE TIED CARD OF 'waybilllaw06.EcdsaPacks'. -/
def ecdsaPacksCard : Claim7 := { stood := { row := ecdsaPacksRow, standIns := [], harness := (true, "f4d9e1ed8f3c67e0ae0ba2c4991ebd82a8eb3e125ea78f39e58161bd2fff4221"), looks := false }, kinds := [], alts := [], laidByText := true, laidKinds := [.data], laidTests := true, laidLooks := .later }
def EcdsaPacksCardSaid : Prop := Claim7.holds Tryd.pinned (.plain (OpenSpec.ofChange ecdsaPacksSpec)) ecdsaPacksCard

/-- THE SECOND FORM's CARD OF 'waybilllaw06.EcdsaPacks'. -/
def ecdsaPacksUptoCard : Claim7 := { stood := { row := ecdsaPacksUptoRow, standIns := [], harness := (true, "f4d9e1ed8f3c67e0ae0ba2c4991ebd82a8eb3e125ea78f39e58161bd2fff4221"), looks := false }, kinds := [], alts := [], laidByText := true, laidKinds := [.data], laidTests := true, laidLooks := .later }
def EcdsaPacksUptoCardSaid : Prop := Claim7.holds Tryd.pinned (.plain (OpenSpec.upto ecdsaPacksSpec)) ecdsaPacksUptoCard
end Rows
end Go.Proofs.YtnjmdncnkijijaaDoor
