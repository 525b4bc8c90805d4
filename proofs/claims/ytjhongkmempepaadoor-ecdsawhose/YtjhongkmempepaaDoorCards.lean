/-
  DERIVED. GIVEN WITH THE SEED: THE CARDS: each row of YtjhongkmempepaaDoorRows.lean that lists a variable, with what it lists TIED to the program's text (the seventh form; the later family's looks); each row that meets fmt, with fmt's text TOLD by the authors' own Lean function (tested against real Go, not proved from fmt's source: count such statements apart). THE CARD IS WHAT COUNTS. Prove the row's statement (the work); the ties are given (YtjhongkmempepaaDoorTie.lean); close each card by the builder's one call (the guide's Derived/Test/ToyasCard.lean, 'card_holds'). Laid BY PROGRAM, IN A SANDBOX (cutbox-door.mjs). By AI agents, Wed Nov 11 2026. No macro, syntax, notation, axiom, sorry.
-/
import Derived.Test.YtjhongkmempepaaDoorRows
import GoSem.ClaimSeven
namespace Go.Proofs.YtjhongkmempepaaDoor
namespace Rows

/-- THE TIED CARD OF 'waybilllaw06.EcdsaRecovered'. -/
def ecdsaRecoveredCard : Claim7 := { stood := { row := ecdsaRecoveredRow, standIns := [], harness := (true, "ffb2c09d7475cdb3617f6fa4ad7592bf6a84eee89226e9f2a04ce0836a32339c"), looks := false }, kinds := [], alts := [], laidByText := true, laidKinds := [.data, .data], laidTests := true, laidLooks := .later }
def EcdsaRecoveredCardSaid : Prop := Claim7.holds Tryd.pinned (.plain (OpenSpec.ofChange ecdsaRecoveredSpec)) ecdsaRecoveredCard

/-- THE TIED CARD OF 'waybilllaw06.EcdsaWhose'. -/
def ecdsaWhoseCard : Claim7 := { stood := { row := ecdsaWhoseRow, standIns := [], harness := (true, "ffb2c09d7475cdb3617f6fa4ad7592bf6a84eee89226e9f2a04ce0836a32339c"), looks := false }, kinds := [], alts := [], laidByText := true, laidKinds := [.data, .data], laidTests := true, laidLooks := .later }
def EcdsaWhoseCardSaid : Prop := Claim7.holds Tryd.pinned (.plain (OpenSpec.ofChange ecdsaWhoseSpec)) ecdsaWhoseCard

/-- THE SECOND FORM's CARD OF 'waybilllaw06.EcdsaRecovered'. -/
def ecdsaRecoveredUptoCard : Claim7 := { stood := { row := ecdsaRecoveredUptoRow, standIns := [], harness := (true, "ffb2c09d7475cdb3617f6fa4ad7592bf6a84eee89226e9f2a04ce0836a32339c"), looks := false }, kinds := [], alts := [], laidByText := true, laidKinds := [.data, .data], laidTests := true, laidLooks := .later }
def EcdsaRecoveredUptoCardSaid : Prop := Claim7.holds Tryd.pinned (.plain (OpenSpec.upto ecdsaRecoveredSpec)) ecdsaRecoveredUptoCard

/-- THE SECOND FORM's CARD OF 'waybilllaw06.EcdsaWhose'. -/
def ecdsaWhoseUptoCard : Claim7 := { stood := { row := ecdsaWhoseUptoRow, standIns := [], harness := (true, "ffb2c09d7475cdb3617f6fa4ad7592bf6a84eee89226e9f2a04ce0836a32339c"), looks := false }, kinds := [], alts := [], laidByText := true, laidKinds := [.data, .data], laidTests := true, laidLooks := .later }
def EcdsaWhoseUptoCardSaid : Prop := Claim7.holds Tryd.pinned (.plain (OpenSpec.upto ecdsaWhoseSpec)) ecdsaWhoseUptoCard
end Rows
end Go.Proofs.YtjhongkmempepaaDoor
