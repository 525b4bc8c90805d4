/-
  DERIVED. GIVEN WITH THE SEED: THE CARDS: each row of YtnokgnhcnhfkpaaDoorRows.lean that lists a variable, with what it lists TIED to the program's text (the seventh form; the later family's looks); each row that meets fmt, with fmt's text TOLD by the authors' own Lean function (tested against real Go, not proved from fmt's source: count such statements apart). THE CARD IS WHAT COUNTS. Prove the row's statement (the work); the ties are given (YtnokgnhcnhfkpaaDoorTie.lean); close each card by the builder's one call (the guide's Derived/Test/ToyasCard.lean, 'card_holds'). Laid BY PROGRAM, IN A SANDBOX (cutbox-door.mjs). By AI agents, Wed Nov 11 2026. No macro, syntax, notation, axiom, sorry.
-/
import Derived.Test.YtnokgnhcnhfkpaaDoorRows
import GoSem.ClaimSeven
namespace Go.Proofs.YtnokgnhcnhfkpaaDoor
namespace Rows

/-- THE TIED CARD OF 'waybilllaw01.U256Back'. -/
def u256BackCard : Claim7 := { stood := { row := u256BackRow, standIns := [], harness := (true, "65351bb328d073caa251b5a8632f1afea16231072c12d4fc2c9f902df8fba2d1"), looks := false }, kinds := [], alts := [], laidByText := true, laidKinds := [.data], laidTests := true, laidLooks := .later }
def U256BackCardSaid : Prop := Claim7.holds Tryd.pinned (.plain (OpenSpec.ofChange u256BackSpec)) u256BackCard

/-- THE SECOND FORM's CARD OF 'waybilllaw01.U256Back'. -/
def u256BackUptoCard : Claim7 := { stood := { row := u256BackUptoRow, standIns := [], harness := (true, "65351bb328d073caa251b5a8632f1afea16231072c12d4fc2c9f902df8fba2d1"), looks := false }, kinds := [], alts := [], laidByText := true, laidKinds := [.data], laidTests := true, laidLooks := .later }
def U256BackUptoCardSaid : Prop := Claim7.holds Tryd.pinned (.plain (OpenSpec.upto u256BackSpec)) u256BackUptoCard
end Rows
end Go.Proofs.YtnokgnhcnhfkpaaDoor
