import Derived.Test.YtncpjgpioajbeaaGreatDoorSRPad
import Derived.Test.YtncpjgpioajbeaaGreatDoorSRComp
import Derived.Test.YtncpjgpioajbeaaGreatDoorQTail
/- The document's digest. -/
namespace Go.Proofs.YtncpjgpioajbeaaGreatDoor.S
open Go.RowKit Go.Sort

end Go.Proofs.YtncpjgpioajbeaaGreatDoor.S
