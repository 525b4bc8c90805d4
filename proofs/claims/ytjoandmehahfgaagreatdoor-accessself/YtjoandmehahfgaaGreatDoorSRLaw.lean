import Derived.Test.YtjoandmehahfgaaGreatDoorSPad
import Derived.Test.YtjoandmehahfgaaGreatDoorSComp
import Derived.Deep.AppendLies
import Derived.Test.YtjoandmehahfgaaGreatDoorSBase
import Derived.Test.YtjoandmehahfgaaGreatDoorTail
import Derived.Laws.OwnMore
import Derived.Test.YtjoandmehahfgaaGreatDoorSTx
namespace Go.Proofs.YtjoandmehahfgaaGreatDoor.S
open Go.RowKit Go.Sort
def DY (X:List (BitVec 8)):List (BitVec 8):=X.map fun x=>x ^^^ 255
open Go.RowKit Go.Sort
def fp (q:Part):Part:={ q with X:=DY q.X }
end Go.Proofs.YtjoandmehahfgaaGreatDoor.S
