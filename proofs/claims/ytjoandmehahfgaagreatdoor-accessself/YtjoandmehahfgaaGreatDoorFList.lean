import Derived.Test.YtjoandmehahfgaaGreatDoorFExp
import Derived.Deep.LoopGhost
import Derived.OwnWalk
import Derived.Deep.OwnRows
import Derived.Maps.AppendAt
import Derived.Laws.OwnMore
namespace Go.Proofs.YtjoandmehahfgaaGreatDoor
open Go.RowKit Go.Sort
theorem aF {P:Program} {ops:Array Oper} {Q:Exit→Act→World→Prop} {l:List Oper} {a:Act} {w:World} (S:World→Prop) (h:S w) (k:∀ W,S W→wpList P ops Q l a W):wpList P ops Q l a w:=k w h
open Go.RowKit Go.Sort
theorem getD_in {L:List Int} {i:Nat} (h:i<L.length):L.getD i 0=L[i]:=by
 rw [List.getD,List.getElem?_eq_getElem h];rfl
end Go.Proofs.YtjoandmehahfgaaGreatDoor
