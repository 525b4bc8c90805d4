import Derived.Test.YtncpjgpioajbeaaGreatDoorSRRoots
import Derived.Test.YtncpjgpioajbeaaGreatDoorSComp
/- The document's turned and word; what the words of a block are. -/
namespace Go.Proofs.YtncpjgpioajbeaaGreatDoor.S
open Go.RowKit Go.Sort

end Go.Proofs.YtncpjgpioajbeaaGreatDoor.S
