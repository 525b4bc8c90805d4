/-
  DERIVED. GIVEN WITH THE SEED: THE CARDS: each row of YtllfmlgnemkklaaDoorRows.lean that lists a variable, with what it lists TIED to the program's text (the seventh form; the later family's looks); each row that meets fmt, with fmt's text TOLD by the authors' own Lean function (tested against real Go, not proved from fmt's source: count such statements apart). THE CARD IS WHAT COUNTS. Prove the row's statement (the work); the ties are given (YtllfmlgnemkklaaDoorTie.lean); close each card by the builder's one call (the guide's Derived/Test/ToyasCard.lean, 'card_holds'). Laid BY PROGRAM, IN A SANDBOX (cutbox-door.mjs). By AI agents, Wed Nov 11 2026. No macro, syntax, notation, axiom, sorry.
-/
import Derived.Test.YtllfmlgnemkklaaDoorRows
import GoSem.ClaimSeven
namespace Go.Proofs.YtllfmlgnemkklaaDoor
namespace Rows

/-- THE TIED CARD OF 'waybilllaw18.FeesAdds'. -/
def feesAddsCard : Claim7 := { stood := { row := feesAddsRow, standIns := [], harness := (true, "09132130d6ca0dfc97cf448c32316295c1e4de0af87940e6702338db80f125bf"), looks := false }, kinds := [], alts := [], laidByText := true, laidKinds := [.data, .data, .data], laidTests := true, laidLooks := .later }
def FeesAddsCardSaid : Prop := Claim7.holds Tryd.pinned (.plain (OpenSpec.ofChange feesAddsSpec)) feesAddsCard

/-- THE TIED CARD OF 'waybilllaw18.FeesGas'. -/
def feesGasCard : Claim7 := { stood := { row := feesGasRow, standIns := [], harness := (true, "09132130d6ca0dfc97cf448c32316295c1e4de0af87940e6702338db80f125bf"), looks := false }, kinds := [], alts := [], laidByText := true, laidKinds := [.data, .data, .data], laidTests := true, laidLooks := .later }
def FeesGasCardSaid : Prop := Claim7.holds Tryd.pinned (.plain (OpenSpec.ofChange feesGasSpec)) feesGasCard

/-- THE SECOND FORM's CARD OF 'waybilllaw18.FeesAdds'. -/
def feesAddsUptoCard : Claim7 := { stood := { row := feesAddsUptoRow, standIns := [], harness := (true, "09132130d6ca0dfc97cf448c32316295c1e4de0af87940e6702338db80f125bf"), looks := false }, kinds := [], alts := [], laidByText := true, laidKinds := [.data, .data, .data], laidTests := true, laidLooks := .later }
def FeesAddsUptoCardSaid : Prop := Claim7.holds Tryd.pinned (.plain (OpenSpec.upto feesAddsSpec)) feesAddsUptoCard

/-- THE SECOND FORM's CARD OF 'waybilllaw18.FeesGas'. -/
def feesGasUptoCard : Claim7 := { stood := { row := feesGasUptoRow, standIns := [], harness := (true, "09132130d6ca0dfc97cf448c32316295c1e4de0af87940e6702338db80f125bf"), looks := false }, kinds := [], alts := [], laidByText := true, laidKinds := [.data, .data, .data], laidTests := true, laidLooks := .later }
def FeesGasUptoCardSaid : Prop := Claim7.holds Tryd.pinned (.plain (OpenSpec.upto feesGasSpec)) feesGasUptoCard
end Rows
end Go.Proofs.YtllfmlgnemkklaaDoor
