/-
  DERIVED. GIVEN WITH THE SEED: THE CARDS: each row of YtjlijohdobknoaaDoorRows.lean that lists a variable, with what it lists TIED to the program's text (the seventh form; the later family's looks); each row that meets fmt, with fmt's text TOLD by the authors' own Lean function (tested against real Go, not proved from fmt's source: count such statements apart). THE CARD IS WHAT COUNTS. Prove the row's statement (the work); the ties are given (YtjlijohdobknoaaDoorTie.lean); close each card by the builder's one call (the guide's Derived/Test/ToyasCard.lean, 'card_holds'). Laid BY PROGRAM, IN A SANDBOX (cutbox-door.mjs). By AI agents, Wed Nov 11 2026. No macro, syntax, notation, axiom, sorry.
-/
import Derived.Test.YtjlijohdobknoaaDoorRows
import GoSem.ClaimSeven
namespace Go.Proofs.YtjlijohdobknoaaDoor
namespace Rows

/-- THE TIED CARD OF 'waybilllaw04.FieldBatch'. -/
def fieldBatchCard : Claim7 := { stood := { row := fieldBatchRow, standIns := [], harness := (true, "a2e1ecb65f4235662bc86696cb1a763506cec066c297966ea48553edea521104"), looks := false }, kinds := [], alts := [], laidByText := true, laidKinds := [.data], laidTests := true, laidLooks := .later }
def FieldBatchCardSaid : Prop := Claim7.holds Tryd.pinned (.plain (OpenSpec.ofChange fieldBatchSpec)) fieldBatchCard

/-- THE SECOND FORM's CARD OF 'waybilllaw04.FieldBatch'. -/
def fieldBatchUptoCard : Claim7 := { stood := { row := fieldBatchUptoRow, standIns := [], harness := (true, "a2e1ecb65f4235662bc86696cb1a763506cec066c297966ea48553edea521104"), looks := false }, kinds := [], alts := [], laidByText := true, laidKinds := [.data], laidTests := true, laidLooks := .later }
def FieldBatchUptoCardSaid : Prop := Claim7.holds Tryd.pinned (.plain (OpenSpec.upto fieldBatchSpec)) fieldBatchUptoCard
end Rows
end Go.Proofs.YtjlijohdobknoaaDoor
