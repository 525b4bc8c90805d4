/-
  DERIVED. GIVEN WITH THE SEED: THE CARDS: each row of YtniabadlbockaaaDoorRows.lean that lists a variable, with what it lists TIED to the program's text (the seventh form; the later family's looks); each row that meets fmt, with fmt's text TOLD by the authors' own Lean function (tested against real Go, not proved from fmt's source: count such statements apart). THE CARD IS WHAT COUNTS. Prove the row's statement (the work); the ties are given (YtniabadlbockaaaDoorTie.lean); close each card by the builder's one call (the guide's Derived/Test/ToyasCard.lean, 'card_holds'). Laid BY PROGRAM, IN A SANDBOX (cutbox-door.mjs). By AI agents, Wed Nov 11 2026. No macro, syntax, notation, axiom, sorry.
-/
import Derived.Test.YtniabadlbockaaaDoorRows
import GoSem.ClaimSeven
namespace Go.Proofs.YtniabadlbockaaaDoor
namespace Rows

/-- THE TIED CARD OF 'waybilllaw03.ShaNil'. -/
def shaNilCard : Claim7 := { stood := { row := shaNilRow, standIns := [], harness := (true, "1dfafa6d48016975e387abee482329de1e526baf3645ce1aa7b128109fb1b9e0"), looks := false }, kinds := [], alts := [], laidByText := true, laidKinds := [.data, .data], laidTests := true, laidLooks := .later }
def ShaNilCardSaid : Prop := Claim7.holds Tryd.pinned (.plain (OpenSpec.ofChange shaNilSpec)) shaNilCard

/-- THE TIED CARD OF 'waybilllaw03.ShaKeyed'. -/
def shaKeyedCard : Claim7 := { stood := { row := shaKeyedRow, standIns := [], harness := (true, "1dfafa6d48016975e387abee482329de1e526baf3645ce1aa7b128109fb1b9e0"), looks := false }, kinds := [], alts := [], laidByText := true, laidKinds := [.data, .data], laidTests := true, laidLooks := .later }
def ShaKeyedCardSaid : Prop := Claim7.holds Tryd.pinned (.plain (OpenSpec.ofChange shaKeyedSpec)) shaKeyedCard

/-- THE TIED CARD OF 'waybilllaw03.ShaHangs'. -/
def shaHangsCard : Claim7 := { stood := { row := shaHangsRow, standIns := [], harness := (true, "1dfafa6d48016975e387abee482329de1e526baf3645ce1aa7b128109fb1b9e0"), looks := false }, kinds := [], alts := [], laidByText := true, laidKinds := [.data, .data], laidTests := true, laidLooks := .later }
def ShaHangsCardSaid : Prop := Claim7.holds Tryd.pinned (.plain (OpenSpec.ofChange shaHangsSpec)) shaHangsCard

/-- THE TIED CARD OF 'waybilllaw03.ShaFolds'. -/
def shaFoldsCard : Claim7 := { stood := { row := shaFoldsRow, standIns := [], harness := (true, "1dfafa6d48016975e387abee482329de1e526baf3645ce1aa7b128109fb1b9e0"), looks := false }, kinds := [], alts := [], laidByText := true, laidKinds := [.data, .data], laidTests := true, laidLooks := .later }
def ShaFoldsCardSaid : Prop := Claim7.holds Tryd.pinned (.plain (OpenSpec.ofChange shaFoldsSpec)) shaFoldsCard

/-- THE SECOND FORM's CARD OF 'waybilllaw03.ShaNil'. -/
def shaNilUptoCard : Claim7 := { stood := { row := shaNilUptoRow, standIns := [], harness := (true, "1dfafa6d48016975e387abee482329de1e526baf3645ce1aa7b128109fb1b9e0"), looks := false }, kinds := [], alts := [], laidByText := true, laidKinds := [.data, .data], laidTests := true, laidLooks := .later }
def ShaNilUptoCardSaid : Prop := Claim7.holds Tryd.pinned (.plain (OpenSpec.upto shaNilSpec)) shaNilUptoCard

/-- THE SECOND FORM's CARD OF 'waybilllaw03.ShaKeyed'. -/
def shaKeyedUptoCard : Claim7 := { stood := { row := shaKeyedUptoRow, standIns := [], harness := (true, "1dfafa6d48016975e387abee482329de1e526baf3645ce1aa7b128109fb1b9e0"), looks := false }, kinds := [], alts := [], laidByText := true, laidKinds := [.data, .data], laidTests := true, laidLooks := .later }
def ShaKeyedUptoCardSaid : Prop := Claim7.holds Tryd.pinned (.plain (OpenSpec.upto shaKeyedSpec)) shaKeyedUptoCard

/-- THE SECOND FORM's CARD OF 'waybilllaw03.ShaHangs'. -/
def shaHangsUptoCard : Claim7 := { stood := { row := shaHangsUptoRow, standIns := [], harness := (true, "1dfafa6d48016975e387abee482329de1e526baf3645ce1aa7b128109fb1b9e0"), looks := false }, kinds := [], alts := [], laidByText := true, laidKinds := [.data, .data], laidTests := true, laidLooks := .later }
def ShaHangsUptoCardSaid : Prop := Claim7.holds Tryd.pinned (.plain (OpenSpec.upto shaHangsSpec)) shaHangsUptoCard

/-- THE SECOND FORM's CARD OF 'waybilllaw03.ShaFolds'. -/
def shaFoldsUptoCard : Claim7 := { stood := { row := shaFoldsUptoRow, standIns := [], harness := (true, "1dfafa6d48016975e387abee482329de1e526baf3645ce1aa7b128109fb1b9e0"), looks := false }, kinds := [], alts := [], laidByText := true, laidKinds := [.data, .data], laidTests := true, laidLooks := .later }
def ShaFoldsUptoCardSaid : Prop := Claim7.holds Tryd.pinned (.plain (OpenSpec.upto shaFoldsSpec)) shaFoldsUptoCard
end Rows
end Go.Proofs.YtniabadlbockaaaDoor
