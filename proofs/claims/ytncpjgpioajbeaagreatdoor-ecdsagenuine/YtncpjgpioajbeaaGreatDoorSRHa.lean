import Derived.Test.YtncpjgpioajbeaaGreatDoorSRDig
import Derived.Test.YtncpjgpioajbeaaGreatDoorSRJoin
import Derived.Test.YtncpjgpioajbeaaGreatDoorSHmac
import Derived.Test.YtncpjgpioajbeaaGreatDoorCut
/- The document's bytesOf; two lists that are gathered beside one another. -/
namespace Go.Proofs.YtncpjgpioajbeaaGreatDoor.S
open Go.RowKit Go.Sort

end Go.Proofs.YtncpjgpioajbeaaGreatDoor.S
