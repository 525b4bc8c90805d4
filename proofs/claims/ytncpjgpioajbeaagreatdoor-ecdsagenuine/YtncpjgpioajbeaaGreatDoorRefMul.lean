import Derived.Test.YtncpjgpioajbeaaGreatDoorRef1
import Derived.Test.YtncpjgpioajbeaaGreatDoorVars
import Derived.Test.YtncpjgpioajbeaaGreatDoorLen
import Derived.Deep.LoopGhost
import Derived.Deep.RegionHeld3
namespace Go.Proofs.YtncpjgpioajbeaaGreatDoor
open Go.RowKit

end Go.Proofs.YtncpjgpioajbeaaGreatDoor
