import Derived.Test.YtjoandmehahfgaaGreatDoorCards
import Derived.Test.YtjoandmehahfgaaGreatDoorTie
import Derived.Test.YtjoandmehahfgaaGreatDoorKOpen
import Derived.WalkKit
import Derived.ProofKit
import Derived.OpenShut
import Derived.Deep.DeepHandedRow
import Derived.Lib.LaidTab
namespace Go.Proofs.YtjoandmehahfgaaGreatDoor.K
open Go.ChangeShapes Go.WideShapes Go.ChangeAt Go.RowKit
def lay (cs:Array Value):Obj→Obj
 | .cells _ t frozen=>.cells cs t frozen
 | o=>o
end Go.Proofs.YtjoandmehahfgaaGreatDoor.K
