import Derived.Test.YtnnnaajgjniiaaaGreatDoorFExp
import Derived.Deep.LoopGhost
import Derived.OwnWalk
import Derived.Deep.OwnRows
namespace Go.Proofs.YtnnnaajgjniiaaaGreatDoor
open Go.RowKit Go.Sort
theorem aB {P:Program} {ops:Array Oper} {Q:Exit→Act→World→Prop} {l:List Oper} {a:Act} {w:World} (S:World→Prop) (h:S w) (k:∀ W,S W→wpList P ops Q l a W):wpList P ops Q l a w:=k w h
end Go.Proofs.YtnnnaajgjniiaaaGreatDoor
