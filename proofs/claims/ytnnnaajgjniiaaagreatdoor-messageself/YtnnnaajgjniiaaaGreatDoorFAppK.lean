import Derived.Test.YtnnnaajgjniiaaaGreatDoorFList
import Derived.Maps.AppendAt
import Derived.Laws.OwnMore
namespace Go.Proofs.YtnnnaajgjniiaaaGreatDoor
open Go.RowKit Go.Sort
theorem getD_in {L:List Int} {i:Nat} (h:i<L.length):L.getD i 0=L[i]:=by
 rw [List.getD,List.getElem?_eq_getElem h];rfl
end Go.Proofs.YtnnnaajgjniiaaaGreatDoor
