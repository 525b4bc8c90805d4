import Derived.Test.YtncpjgpioajbeaaGreatDoorLongNum
import Derived.Test.YtncpjgpioajbeaaGreatDoorTail
import Derived.Deep.RegionHeld
namespace Go.Proofs.YtncpjgpioajbeaaGreatDoor
open Go.RowKit

end Go.Proofs.YtncpjgpioajbeaaGreatDoor
