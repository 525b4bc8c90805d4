/-
  DERIVED. GIVEN WITH THE SEED: THE CARDS: each row of YtkbdpkgfnbfgmaaDoorRows.lean that lists a variable, with what it lists TIED to the program's text (the seventh form; the later family's looks); each row that meets fmt, with fmt's text TOLD by the authors' own Lean function (tested against real Go, not proved from fmt's source: count such statements apart). THE CARD IS WHAT COUNTS. Prove the row's statement (the work); the ties are given (YtkbdpkgfnbfgmaaDoorTie.lean); close each card by the builder's one call (the guide's Derived/Test/ToyasCard.lean, 'card_holds'). Laid BY PROGRAM, IN A SANDBOX (cutbox-door.mjs). By AI agents, Wed Nov 11 2026. No macro, syntax, notation, axiom, sorry.
-/
import Derived.Test.YtkbdpkgfnbfgmaaDoorRows
import GoSem.ClaimSeven
namespace Go.Proofs.YtkbdpkgfnbfgmaaDoor
namespace Rows

/-- THE TIED CARD OF 'waybilllaw09.AddressCreates'. -/
def addressCreatesCard : Claim7 := { stood := { row := addressCreatesRow, standIns := [], harness := (true, "febbbce0616fa86cc11747c06a3faedb03b0549478f15ba8bda166209e417eb6"), looks := false }, kinds := [], alts := [], laidByText := true, laidKinds := [.data, .data, .data, .data], laidTests := true, laidLooks := .later }
def AddressCreatesCardSaid : Prop := Claim7.holds Tryd.pinned (.plain (OpenSpec.ofChange addressCreatesSpec)) addressCreatesCard

/-- THE SECOND FORM's CARD OF 'waybilllaw09.AddressCreates'. -/
def addressCreatesUptoCard : Claim7 := { stood := { row := addressCreatesUptoRow, standIns := [], harness := (true, "febbbce0616fa86cc11747c06a3faedb03b0549478f15ba8bda166209e417eb6"), looks := false }, kinds := [], alts := [], laidByText := true, laidKinds := [.data, .data, .data, .data], laidTests := true, laidLooks := .later }
def AddressCreatesUptoCardSaid : Prop := Claim7.holds Tryd.pinned (.plain (OpenSpec.upto addressCreatesSpec)) addressCreatesUptoCard
end Rows
end Go.Proofs.YtkbdpkgfnbfgmaaDoor
