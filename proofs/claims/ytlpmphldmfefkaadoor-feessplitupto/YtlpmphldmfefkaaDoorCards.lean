/-
  DERIVED. GIVEN WITH THE SEED: THE CARDS: each row of YtlpmphldmfefkaaDoorRows.lean that lists a variable, with what it lists TIED to the program's text (the seventh form; the later family's looks); each row that meets fmt, with fmt's text TOLD by the authors' own Lean function (tested against real Go, not proved from fmt's source: count such statements apart). THE CARD IS WHAT COUNTS. Prove the row's statement (the work); the ties are given (YtlpmphldmfefkaaDoorTie.lean); close each card by the builder's one call (the guide's Derived/Test/ToyasCard.lean, 'card_holds'). Laid BY PROGRAM, IN A SANDBOX (cutbox-door.mjs). By AI agents, Wed Nov 11 2026. No macro, syntax, notation, axiom, sorry.
-/
import Derived.Test.YtlpmphldmfefkaaDoorRows
import GoSem.ClaimSeven
namespace Go.Proofs.YtlpmphldmfefkaaDoor
namespace Rows

/-- THE TIED CARD OF 'waybilllaw18.FeesAdds'. -/
def feesAddsCard : Claim7 := { stood := { row := feesAddsRow, standIns := [], harness := (true, "0447f73a6a636938f2a3c38d5ebf4de4dd14ef02dbccb739db1d74c6742bc20b"), looks := false }, kinds := [], alts := [], laidByText := true, laidKinds := [.data, .data, .data], laidTests := true, laidLooks := .later }
def FeesAddsCardSaid : Prop := Claim7.holds Tryd.pinned (.plain (OpenSpec.ofChange feesAddsSpec)) feesAddsCard

/-- THE TIED CARD OF 'waybilllaw18.FeesSplit'. -/
def feesSplitCard : Claim7 := { stood := { row := feesSplitRow, standIns := [], harness := (true, "0447f73a6a636938f2a3c38d5ebf4de4dd14ef02dbccb739db1d74c6742bc20b"), looks := false }, kinds := [], alts := [], laidByText := true, laidKinds := [.data, .data, .data], laidTests := true, laidLooks := .later }
def FeesSplitCardSaid : Prop := Claim7.holds Tryd.pinned (.plain (OpenSpec.ofChange feesSplitSpec)) feesSplitCard

/-- THE TIED CARD OF 'waybilllaw18.FeesGas'. -/
def feesGasCard : Claim7 := { stood := { row := feesGasRow, standIns := [], harness := (true, "0447f73a6a636938f2a3c38d5ebf4de4dd14ef02dbccb739db1d74c6742bc20b"), looks := false }, kinds := [], alts := [], laidByText := true, laidKinds := [.data, .data, .data], laidTests := true, laidLooks := .later }
def FeesGasCardSaid : Prop := Claim7.holds Tryd.pinned (.plain (OpenSpec.ofChange feesGasSpec)) feesGasCard

/-- THE TIED CARD OF 'waybilllaw18.FeesCharges'. -/
def feesChargesCard : Claim7 := { stood := { row := feesChargesRow, standIns := [], harness := (true, "0447f73a6a636938f2a3c38d5ebf4de4dd14ef02dbccb739db1d74c6742bc20b"), looks := false }, kinds := [], alts := [], laidByText := true, laidKinds := [.data, .data, .data], laidTests := true, laidLooks := .later }
def FeesChargesCardSaid : Prop := Claim7.holds Tryd.pinned (.plain (OpenSpec.ofChange feesChargesSpec)) feesChargesCard

/-- THE TIED CARD OF 'waybilllaw18.FeesPrices'. -/
def feesPricesCard : Claim7 := { stood := { row := feesPricesRow, standIns := [], harness := (true, "0447f73a6a636938f2a3c38d5ebf4de4dd14ef02dbccb739db1d74c6742bc20b"), looks := false }, kinds := [], alts := [], laidByText := true, laidKinds := [.data, .data, .data], laidTests := true, laidLooks := .later }
def FeesPricesCardSaid : Prop := Claim7.holds Tryd.pinned (.plain (OpenSpec.ofChange feesPricesSpec)) feesPricesCard

/-- THE SECOND FORM's CARD OF 'waybilllaw18.FeesAdds'. -/
def feesAddsUptoCard : Claim7 := { stood := { row := feesAddsUptoRow, standIns := [], harness := (true, "0447f73a6a636938f2a3c38d5ebf4de4dd14ef02dbccb739db1d74c6742bc20b"), looks := false }, kinds := [], alts := [], laidByText := true, laidKinds := [.data, .data, .data], laidTests := true, laidLooks := .later }
def FeesAddsUptoCardSaid : Prop := Claim7.holds Tryd.pinned (.plain (OpenSpec.upto feesAddsSpec)) feesAddsUptoCard

/-- THE SECOND FORM's CARD OF 'waybilllaw18.FeesSplit'. -/
def feesSplitUptoCard : Claim7 := { stood := { row := feesSplitUptoRow, standIns := [], harness := (true, "0447f73a6a636938f2a3c38d5ebf4de4dd14ef02dbccb739db1d74c6742bc20b"), looks := false }, kinds := [], alts := [], laidByText := true, laidKinds := [.data, .data, .data], laidTests := true, laidLooks := .later }
def FeesSplitUptoCardSaid : Prop := Claim7.holds Tryd.pinned (.plain (OpenSpec.upto feesSplitSpec)) feesSplitUptoCard

/-- THE SECOND FORM's CARD OF 'waybilllaw18.FeesGas'. -/
def feesGasUptoCard : Claim7 := { stood := { row := feesGasUptoRow, standIns := [], harness := (true, "0447f73a6a636938f2a3c38d5ebf4de4dd14ef02dbccb739db1d74c6742bc20b"), looks := false }, kinds := [], alts := [], laidByText := true, laidKinds := [.data, .data, .data], laidTests := true, laidLooks := .later }
def FeesGasUptoCardSaid : Prop := Claim7.holds Tryd.pinned (.plain (OpenSpec.upto feesGasSpec)) feesGasUptoCard

/-- THE SECOND FORM's CARD OF 'waybilllaw18.FeesCharges'. -/
def feesChargesUptoCard : Claim7 := { stood := { row := feesChargesUptoRow, standIns := [], harness := (true, "0447f73a6a636938f2a3c38d5ebf4de4dd14ef02dbccb739db1d74c6742bc20b"), looks := false }, kinds := [], alts := [], laidByText := true, laidKinds := [.data, .data, .data], laidTests := true, laidLooks := .later }
def FeesChargesUptoCardSaid : Prop := Claim7.holds Tryd.pinned (.plain (OpenSpec.upto feesChargesSpec)) feesChargesUptoCard

/-- THE SECOND FORM's CARD OF 'waybilllaw18.FeesPrices'. -/
def feesPricesUptoCard : Claim7 := { stood := { row := feesPricesUptoRow, standIns := [], harness := (true, "0447f73a6a636938f2a3c38d5ebf4de4dd14ef02dbccb739db1d74c6742bc20b"), looks := false }, kinds := [], alts := [], laidByText := true, laidKinds := [.data, .data, .data], laidTests := true, laidLooks := .later }
def FeesPricesUptoCardSaid : Prop := Claim7.holds Tryd.pinned (.plain (OpenSpec.upto feesPricesSpec)) feesPricesUptoCard
end Rows
end Go.Proofs.YtlpmphldmfefkaaDoor
