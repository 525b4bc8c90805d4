/-
  DERIVED. GIVEN WITH THE SEED: THE CARDS: each row of YtkbmonlbgnnjlaaDoorRows.lean that lists a variable, with what it lists TIED to the program's text (the seventh form; the later family's looks); each row that meets fmt, with fmt's text TOLD by the authors' own Lean function (tested against real Go, not proved from fmt's source: count such statements apart). THE CARD IS WHAT COUNTS. Prove the row's statement (the work); the ties are given (YtkbmonlbgnnjlaaDoorTie.lean); close each card by the builder's one call (the guide's Derived/Test/ToyasCard.lean, 'card_holds'). Laid BY PROGRAM, IN A SANDBOX (cutbox-door.mjs). By AI agents, Wed Nov 11 2026. No macro, syntax, notation, axiom, sorry.
-/
import Derived.Test.YtkbmonlbgnnjlaaDoorRows
import GoSem.ClaimSeven
namespace Go.Proofs.YtkbmonlbgnnjlaaDoor
namespace Rows

/-- THE TIED CARD OF 'waybilllaw14.AccessDigests'. -/
def accessDigestsCard : Claim7 := { stood := { row := accessDigestsRow, standIns := [], harness := (true, "78db98eab36bc4b119a00a1527f7d9f29ac5c1219325411a141cedf5466c0a14"), looks := false }, kinds := [], alts := [], laidByText := true, laidKinds := [.data, .data, .data, .data], laidTests := true, laidLooks := .later }
def AccessDigestsCardSaid : Prop := Claim7.holds Tryd.pinned (.plain (OpenSpec.ofChange accessDigestsSpec)) accessDigestsCard

/-- THE SECOND FORM's CARD OF 'waybilllaw14.AccessDigests'. -/
def accessDigestsUptoCard : Claim7 := { stood := { row := accessDigestsUptoRow, standIns := [], harness := (true, "78db98eab36bc4b119a00a1527f7d9f29ac5c1219325411a141cedf5466c0a14"), looks := false }, kinds := [], alts := [], laidByText := true, laidKinds := [.data, .data, .data, .data], laidTests := true, laidLooks := .later }
def AccessDigestsUptoCardSaid : Prop := Claim7.holds Tryd.pinned (.plain (OpenSpec.upto accessDigestsSpec)) accessDigestsUptoCard
end Rows
end Go.Proofs.YtkbmonlbgnnjlaaDoor
