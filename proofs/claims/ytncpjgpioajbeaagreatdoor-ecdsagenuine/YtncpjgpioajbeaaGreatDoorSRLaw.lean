import Derived.Test.YtncpjgpioajbeaaGreatDoorSPad
import Derived.Test.YtncpjgpioajbeaaGreatDoorTail
import Derived.Laws.OwnMore
import Derived.Test.YtncpjgpioajbeaaGreatDoorSComp
import Derived.Deep.AppendLies
import Derived.Test.YtncpjgpioajbeaaGreatDoorSRLent
/- ShaBlocks. -/
namespace Go.Proofs.YtncpjgpioajbeaaGreatDoor.S
open Go.RowKit Go.Sort

def flipB (X : List (BitVec 8)) : List (BitVec 8) := X.map fun x => x ^^^ 255
end Go.Proofs.YtncpjgpioajbeaaGreatDoor.S
