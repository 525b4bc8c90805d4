/-
  DERIVED. GIVEN WITH THE SEED: THE CARDS: each row of YtjppjieidjodfabDoorRows.lean that lists a variable, with what it lists TIED to the program's text (the seventh form; the later family's looks); each row that meets fmt, with fmt's text TOLD by the authors' own Lean function (tested against real Go, not proved from fmt's source: count such statements apart). THE CARD IS WHAT COUNTS. Prove the row's statement (the work); the ties are given (YtjppjieidjodfabDoorTie.lean); close each card by the builder's one call (the guide's Derived/Test/ToyasCard.lean, 'card_holds'). Laid BY PROGRAM, IN A SANDBOX (cutbox-door.mjs). By AI agents, Wed Nov 11 2026. No macro, syntax, notation, axiom, sorry.
-/
import Derived.Test.YtjppjieidjodfabDoorRows
import GoSem.ClaimSeven
namespace Go.Proofs.YtjppjieidjodfabDoor
namespace Rows

/-- THE TIED CARD OF 'waybilllaw05.CurveLifts'. -/
def curveLiftsCard : Claim7 := { stood := { row := curveLiftsRow, standIns := [], harness := (true, "cbb05a79d383029ad12cb0f850781adce0f93a1bc727897f6e298632749432d0"), looks := false }, kinds := [], alts := [], laidByText := true, laidKinds := [.data], laidTests := true, laidLooks := .later }
def CurveLiftsCardSaid : Prop := Claim7.holds Tryd.pinned (.plain (OpenSpec.ofChange curveLiftsSpec)) curveLiftsCard

/-- THE TIED CARD OF 'waybilllaw05.CurveSums'. -/
def curveSumsCard : Claim7 := { stood := { row := curveSumsRow, standIns := [], harness := (true, "cbb05a79d383029ad12cb0f850781adce0f93a1bc727897f6e298632749432d0"), looks := false }, kinds := [], alts := [], laidByText := true, laidKinds := [.data], laidTests := true, laidLooks := .later }
def CurveSumsCardSaid : Prop := Claim7.holds Tryd.pinned (.plain (OpenSpec.ofChange curveSumsSpec)) curveSumsCard

/-- THE TIED CARD OF 'waybilllaw05.CurveParses'. -/
def curveParsesCard : Claim7 := { stood := { row := curveParsesRow, standIns := [], harness := (true, "cbb05a79d383029ad12cb0f850781adce0f93a1bc727897f6e298632749432d0"), looks := false }, kinds := [], alts := [], laidByText := true, laidKinds := [.data], laidTests := true, laidLooks := .later }
def CurveParsesCardSaid : Prop := Claim7.holds Tryd.pinned (.plain (OpenSpec.ofChange curveParsesSpec)) curveParsesCard

/-- THE TIED CARD OF 'waybilllaw05.CurveAdds'. -/
def curveAddsCard : Claim7 := { stood := { row := curveAddsRow, standIns := [], harness := (true, "cbb05a79d383029ad12cb0f850781adce0f93a1bc727897f6e298632749432d0"), looks := false }, kinds := [], alts := [], laidByText := true, laidKinds := [.data, .data], laidTests := true, laidLooks := .later }
def CurveAddsCardSaid : Prop := Claim7.holds Tryd.pinned (.plain (OpenSpec.ofChange curveAddsSpec)) curveAddsCard

/-- THE TIED CARD OF 'waybilllaw05.CurveMulAdds'. -/
def curveMulAddsCard : Claim7 := { stood := { row := curveMulAddsRow, standIns := [], harness := (true, "cbb05a79d383029ad12cb0f850781adce0f93a1bc727897f6e298632749432d0"), looks := false }, kinds := [], alts := [], laidByText := true, laidKinds := [.data, .data], laidTests := true, laidLooks := .later }
def CurveMulAddsCardSaid : Prop := Claim7.holds Tryd.pinned (.plain (OpenSpec.ofChange curveMulAddsSpec)) curveMulAddsCard

/-- THE TIED CARD OF 'waybilllaw05.CurveMuls'. -/
def curveMulsCard : Claim7 := { stood := { row := curveMulsRow, standIns := [], harness := (true, "cbb05a79d383029ad12cb0f850781adce0f93a1bc727897f6e298632749432d0"), looks := false }, kinds := [], alts := [], laidByText := true, laidKinds := [.data, .data], laidTests := true, laidLooks := .later }
def CurveMulsCardSaid : Prop := Claim7.holds Tryd.pinned (.plain (OpenSpec.ofChange curveMulsSpec)) curveMulsCard

/-- THE SECOND FORM's CARD OF 'waybilllaw05.CurveLifts'. -/
def curveLiftsUptoCard : Claim7 := { stood := { row := curveLiftsUptoRow, standIns := [], harness := (true, "cbb05a79d383029ad12cb0f850781adce0f93a1bc727897f6e298632749432d0"), looks := false }, kinds := [], alts := [], laidByText := true, laidKinds := [.data], laidTests := true, laidLooks := .later }
def CurveLiftsUptoCardSaid : Prop := Claim7.holds Tryd.pinned (.plain (OpenSpec.upto curveLiftsSpec)) curveLiftsUptoCard

/-- THE SECOND FORM's CARD OF 'waybilllaw05.CurveSums'. -/
def curveSumsUptoCard : Claim7 := { stood := { row := curveSumsUptoRow, standIns := [], harness := (true, "cbb05a79d383029ad12cb0f850781adce0f93a1bc727897f6e298632749432d0"), looks := false }, kinds := [], alts := [], laidByText := true, laidKinds := [.data], laidTests := true, laidLooks := .later }
def CurveSumsUptoCardSaid : Prop := Claim7.holds Tryd.pinned (.plain (OpenSpec.upto curveSumsSpec)) curveSumsUptoCard

/-- THE SECOND FORM's CARD OF 'waybilllaw05.CurveParses'. -/
def curveParsesUptoCard : Claim7 := { stood := { row := curveParsesUptoRow, standIns := [], harness := (true, "cbb05a79d383029ad12cb0f850781adce0f93a1bc727897f6e298632749432d0"), looks := false }, kinds := [], alts := [], laidByText := true, laidKinds := [.data], laidTests := true, laidLooks := .later }
def CurveParsesUptoCardSaid : Prop := Claim7.holds Tryd.pinned (.plain (OpenSpec.upto curveParsesSpec)) curveParsesUptoCard

/-- THE SECOND FORM's CARD OF 'waybilllaw05.CurveAdds'. -/
def curveAddsUptoCard : Claim7 := { stood := { row := curveAddsUptoRow, standIns := [], harness := (true, "cbb05a79d383029ad12cb0f850781adce0f93a1bc727897f6e298632749432d0"), looks := false }, kinds := [], alts := [], laidByText := true, laidKinds := [.data, .data], laidTests := true, laidLooks := .later }
def CurveAddsUptoCardSaid : Prop := Claim7.holds Tryd.pinned (.plain (OpenSpec.upto curveAddsSpec)) curveAddsUptoCard

/-- THE SECOND FORM's CARD OF 'waybilllaw05.CurveMulAdds'. -/
def curveMulAddsUptoCard : Claim7 := { stood := { row := curveMulAddsUptoRow, standIns := [], harness := (true, "cbb05a79d383029ad12cb0f850781adce0f93a1bc727897f6e298632749432d0"), looks := false }, kinds := [], alts := [], laidByText := true, laidKinds := [.data, .data], laidTests := true, laidLooks := .later }
def CurveMulAddsUptoCardSaid : Prop := Claim7.holds Tryd.pinned (.plain (OpenSpec.upto curveMulAddsSpec)) curveMulAddsUptoCard

/-- THE SECOND FORM's CARD OF 'waybilllaw05.CurveMuls'. -/
def curveMulsUptoCard : Claim7 := { stood := { row := curveMulsUptoRow, standIns := [], harness := (true, "cbb05a79d383029ad12cb0f850781adce0f93a1bc727897f6e298632749432d0"), looks := false }, kinds := [], alts := [], laidByText := true, laidKinds := [.data, .data], laidTests := true, laidLooks := .later }
def CurveMulsUptoCardSaid : Prop := Claim7.holds Tryd.pinned (.plain (OpenSpec.upto curveMulsSpec)) curveMulsUptoCard
end Rows
end Go.Proofs.YtjppjieidjodfabDoor
