import Derived.Test.YtnnnaajgjniiaaaGreatDoorSPad
import Derived.Test.YtnnnaajgjniiaaaGreatDoorSComp
import Derived.Deep.AppendLies
import Derived.Test.YtnnnaajgjniiaaaGreatDoorSBase
import Derived.Test.YtnnnaajgjniiaaaGreatDoorTail
import Derived.Laws.OwnMore
import Derived.Test.YtnnnaajgjniiaaaGreatDoorQTail
import Derived.Test.YtnnnaajgjniiaaaGreatDoorSTx
namespace Go.Proofs.YtnnnaajgjniiaaaGreatDoor.S
open Go.RowKit Go.Sort
def zE (X:List (BitVec 8)):List (BitVec 8):=X.map fun x=>x ^^^ 255
open Go.RowKit Go.Sort
def fp (q:Part):Part:={ q with X:=zE q.X }
end Go.Proofs.YtnnnaajgjniiaaaGreatDoor.S
