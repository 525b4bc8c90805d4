import Derived.Test.YtncpjgpioajbeaaGreatDoorFList
import Derived.Maps.AppendAt
import Derived.Laws.OwnMore
/- Lists of numbers of one's own: what they keep, what an append asks for. -/
namespace Go.Proofs.YtncpjgpioajbeaaGreatDoor
open Go.RowKit Go.Sort

theorem getD_in {L : List Int} {i : Nat} (h : i < L.length) : L.getD i 0 = L[i] := by
  rw [List.getD, List.getElem?_eq_getElem h]; rfl
end Go.Proofs.YtncpjgpioajbeaaGreatDoor
