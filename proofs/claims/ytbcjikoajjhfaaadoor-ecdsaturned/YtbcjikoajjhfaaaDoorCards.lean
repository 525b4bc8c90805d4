/-
  DERIVED. GIVEN WITH THE SEED: THE CARDS: each row of YtbcjikoajjhfaaaDoorRows.lean that lists a variable, with what it lists TIED to the program's text (the seventh form; the later family's looks); each row that meets fmt, with fmt's text TOLD by the authors' own Lean function (tested against real Go, not proved from fmt's source: count such statements apart). THE CARD IS WHAT COUNTS. Prove the row's statement (the work); the ties are given (YtbcjikoajjhfaaaDoorTie.lean); close each card by the builder's one call (the guide's Derived/Test/ToyasCard.lean, 'card_holds'). Laid BY PROGRAM, IN A SANDBOX (cutbox-door.mjs). By AI agents, Wed Nov 11 2026. No macro, syntax, notation, axiom, sorry.
-/
import Derived.Test.YtbcjikoajjhfaaaDoorRows
import GoSem.ClaimSeven
namespace Go.Proofs.YtbcjikoajjhfaaaDoor
namespace Rows

/-- THE TIED CARD OF 'waybilllaw06.EcdsaBytes'. -/
def ecdsaBytesCard : Claim7 := { stood := { row := ecdsaBytesRow, standIns := [], harness := (true, "253acd49161990b48e5a4a65ec67b0da48be37315a590e4d9397783a6d7d3fd2"), looks := false }, kinds := [], alts := [], laidByText := true, laidKinds := [.data], laidTests := true, laidLooks := .later }
def EcdsaBytesCardSaid : Prop := Claim7.holds Tryd.pinned (.plain (OpenSpec.ofChange ecdsaBytesSpec)) ecdsaBytesCard

/-- THE TIED CARD OF 'waybilllaw06.EcdsaChecks'. -/
def ecdsaChecksCard : Claim7 := { stood := { row := ecdsaChecksRow, standIns := [], harness := (true, "253acd49161990b48e5a4a65ec67b0da48be37315a590e4d9397783a6d7d3fd2"), looks := false }, kinds := [], alts := [], laidByText := true, laidKinds := [.data], laidTests := true, laidLooks := .later }
def EcdsaChecksCardSaid : Prop := Claim7.holds Tryd.pinned (.plain (OpenSpec.ofChange ecdsaChecksSpec)) ecdsaChecksCard

/-- THE TIED CARD OF 'waybilllaw06.EcdsaPacks'. -/
def ecdsaPacksCard : Claim7 := { stood := { row := ecdsaPacksRow, standIns := [], harness := (true, "253acd49161990b48e5a4a65ec67b0da48be37315a590e4d9397783a6d7d3fd2"), looks := false }, kinds := [], alts := [], laidByText := true, laidKinds := [.data], laidTests := true, laidLooks := .later }
def EcdsaPacksCardSaid : Prop := Claim7.holds Tryd.pinned (.plain (OpenSpec.ofChange ecdsaPacksSpec)) ecdsaPacksCard

/-- THE TIED CARD OF 'waybilllaw06.EcdsaTurned'. -/
def ecdsaTurnedCard : Claim7 := { stood := { row := ecdsaTurnedRow, standIns := [], harness := (true, "253acd49161990b48e5a4a65ec67b0da48be37315a590e4d9397783a6d7d3fd2"), looks := false }, kinds := [], alts := [], laidByText := true, laidKinds := [.data, .data], laidTests := true, laidLooks := .later }
def EcdsaTurnedCardSaid : Prop := Claim7.holds Tryd.pinned (.plain (OpenSpec.ofChange ecdsaTurnedSpec)) ecdsaTurnedCard

/-- THE TIED CARD OF 'waybilllaw06.EcdsaTextbook'. -/
def ecdsaTextbookCard : Claim7 := { stood := { row := ecdsaTextbookRow, standIns := [], harness := (true, "253acd49161990b48e5a4a65ec67b0da48be37315a590e4d9397783a6d7d3fd2"), looks := false }, kinds := [], alts := [], laidByText := true, laidKinds := [.data, .data], laidTests := true, laidLooks := .later }
def EcdsaTextbookCardSaid : Prop := Claim7.holds Tryd.pinned (.plain (OpenSpec.ofChange ecdsaTextbookSpec)) ecdsaTextbookCard

/-- THE TIED CARD OF 'waybilllaw06.EcdsaRecovered'. -/
def ecdsaRecoveredCard : Claim7 := { stood := { row := ecdsaRecoveredRow, standIns := [], harness := (true, "253acd49161990b48e5a4a65ec67b0da48be37315a590e4d9397783a6d7d3fd2"), looks := false }, kinds := [], alts := [], laidByText := true, laidKinds := [.data, .data], laidTests := true, laidLooks := .later }
def EcdsaRecoveredCardSaid : Prop := Claim7.holds Tryd.pinned (.plain (OpenSpec.ofChange ecdsaRecoveredSpec)) ecdsaRecoveredCard

/-- THE SECOND FORM's CARD OF 'waybilllaw06.EcdsaBytes'. -/
def ecdsaBytesUptoCard : Claim7 := { stood := { row := ecdsaBytesUptoRow, standIns := [], harness := (true, "253acd49161990b48e5a4a65ec67b0da48be37315a590e4d9397783a6d7d3fd2"), looks := false }, kinds := [], alts := [], laidByText := true, laidKinds := [.data], laidTests := true, laidLooks := .later }
def EcdsaBytesUptoCardSaid : Prop := Claim7.holds Tryd.pinned (.plain (OpenSpec.upto ecdsaBytesSpec)) ecdsaBytesUptoCard

/-- THE SECOND FORM's CARD OF 'waybilllaw06.EcdsaChecks'. -/
def ecdsaChecksUptoCard : Claim7 := { stood := { row := ecdsaChecksUptoRow, standIns := [], harness := (true, "253acd49161990b48e5a4a65ec67b0da48be37315a590e4d9397783a6d7d3fd2"), looks := false }, kinds := [], alts := [], laidByText := true, laidKinds := [.data], laidTests := true, laidLooks := .later }
def EcdsaChecksUptoCardSaid : Prop := Claim7.holds Tryd.pinned (.plain (OpenSpec.upto ecdsaChecksSpec)) ecdsaChecksUptoCard

/-- THE SECOND FORM's CARD OF 'waybilllaw06.EcdsaPacks'. -/
def ecdsaPacksUptoCard : Claim7 := { stood := { row := ecdsaPacksUptoRow, standIns := [], harness := (true, "253acd49161990b48e5a4a65ec67b0da48be37315a590e4d9397783a6d7d3fd2"), looks := false }, kinds := [], alts := [], laidByText := true, laidKinds := [.data], laidTests := true, laidLooks := .later }
def EcdsaPacksUptoCardSaid : Prop := Claim7.holds Tryd.pinned (.plain (OpenSpec.upto ecdsaPacksSpec)) ecdsaPacksUptoCard

/-- THE SECOND FORM's CARD OF 'waybilllaw06.EcdsaTurned'. -/
def ecdsaTurnedUptoCard : Claim7 := { stood := { row := ecdsaTurnedUptoRow, standIns := [], harness := (true, "253acd49161990b48e5a4a65ec67b0da48be37315a590e4d9397783a6d7d3fd2"), looks := false }, kinds := [], alts := [], laidByText := true, laidKinds := [.data, .data], laidTests := true, laidLooks := .later }
def EcdsaTurnedUptoCardSaid : Prop := Claim7.holds Tryd.pinned (.plain (OpenSpec.upto ecdsaTurnedSpec)) ecdsaTurnedUptoCard

/-- THE SECOND FORM's CARD OF 'waybilllaw06.EcdsaTextbook'. -/
def ecdsaTextbookUptoCard : Claim7 := { stood := { row := ecdsaTextbookUptoRow, standIns := [], harness := (true, "253acd49161990b48e5a4a65ec67b0da48be37315a590e4d9397783a6d7d3fd2"), looks := false }, kinds := [], alts := [], laidByText := true, laidKinds := [.data, .data], laidTests := true, laidLooks := .later }
def EcdsaTextbookUptoCardSaid : Prop := Claim7.holds Tryd.pinned (.plain (OpenSpec.upto ecdsaTextbookSpec)) ecdsaTextbookUptoCard

/-- THE SECOND FORM's CARD OF 'waybilllaw06.EcdsaRecovered'. -/
def ecdsaRecoveredUptoCard : Claim7 := { stood := { row := ecdsaRecoveredUptoRow, standIns := [], harness := (true, "253acd49161990b48e5a4a65ec67b0da48be37315a590e4d9397783a6d7d3fd2"), looks := false }, kinds := [], alts := [], laidByText := true, laidKinds := [.data, .data], laidTests := true, laidLooks := .later }
def EcdsaRecoveredUptoCardSaid : Prop := Claim7.holds Tryd.pinned (.plain (OpenSpec.upto ecdsaRecoveredSpec)) ecdsaRecoveredUptoCard
end Rows
end Go.Proofs.YtbcjikoajjhfaaaDoor
