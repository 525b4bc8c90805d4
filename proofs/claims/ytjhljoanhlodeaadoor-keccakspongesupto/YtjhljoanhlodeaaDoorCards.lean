/-
  DERIVED. GIVEN WITH THE SEED: THE CARDS: each row of YtjhljoanhlodeaaDoorRows.lean that lists a variable, with what it lists TIED to the program's text (the seventh form; the later family's looks); each row that meets fmt, with fmt's text TOLD by the authors' own Lean function (tested against real Go, not proved from fmt's source: count such statements apart). THE CARD IS WHAT COUNTS. Prove the row's statement (the work); the ties are given (YtjhljoanhlodeaaDoorTie.lean); close each card by the builder's one call (the guide's Derived/Test/ToyasCard.lean, 'card_holds'). Laid BY PROGRAM, IN A SANDBOX (cutbox-door.mjs). By AI agents, Wed Nov 11 2026. No macro, syntax, notation, axiom, sorry.
-/
import Derived.Test.YtjhljoanhlodeaaDoorRows
import GoSem.ClaimSeven
namespace Go.Proofs.YtjhljoanhlodeaaDoor
namespace Rows

/-- THE TIED CARD OF 'waybilllaw02.KeccakSponges'. -/
def keccakSpongesCard : Claim7 := { stood := { row := keccakSpongesRow, standIns := [], harness := (true, "c15d16fcadb8a2496cc578e024e8809cf5d5b550b4d123e8288e800cb64e969b"), looks := false }, kinds := [], alts := [], laidByText := true, laidKinds := [.data, .data, .data, .data], laidTests := true, laidLooks := .later }
def KeccakSpongesCardSaid : Prop := Claim7.holds Tryd.pinned (.plain (OpenSpec.ofChange keccakSpongesSpec)) keccakSpongesCard

/-- THE SECOND FORM's CARD OF 'waybilllaw02.KeccakSponges'. -/
def keccakSpongesUptoCard : Claim7 := { stood := { row := keccakSpongesUptoRow, standIns := [], harness := (true, "c15d16fcadb8a2496cc578e024e8809cf5d5b550b4d123e8288e800cb64e969b"), looks := false }, kinds := [], alts := [], laidByText := true, laidKinds := [.data, .data, .data, .data], laidTests := true, laidLooks := .later }
def KeccakSpongesUptoCardSaid : Prop := Claim7.holds Tryd.pinned (.plain (OpenSpec.upto keccakSpongesSpec)) keccakSpongesUptoCard
end Rows
end Go.Proofs.YtjhljoanhlodeaaDoor
