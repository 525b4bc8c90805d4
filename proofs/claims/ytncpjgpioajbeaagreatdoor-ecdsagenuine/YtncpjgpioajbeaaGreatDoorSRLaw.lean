import Derived.Test.YtncpjgpioajbeaaGreatDoorSRBad
import Derived.Test.YtncpjgpioajbeaaGreatDoorSRLent
import Derived.Test.YtncpjgpioajbeaaGreatDoorSHsr
/- ShaBlocks. -/
namespace Go.Proofs.YtncpjgpioajbeaaGreatDoor.S
open Go.RowKit Go.Sort

def flipB (X : List (BitVec 8)) : List (BitVec 8) := X.map fun x => x ^^^ 255
end Go.Proofs.YtncpjgpioajbeaaGreatDoor.S
