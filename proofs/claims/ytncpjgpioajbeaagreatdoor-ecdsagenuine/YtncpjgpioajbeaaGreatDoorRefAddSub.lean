import Derived.Test.YtncpjgpioajbeaaGreatDoorRef1
import Derived.Test.YtncpjgpioajbeaaGreatDoorVars
import Derived.Test.YtncpjgpioajbeaaGreatDoorLen
import Derived.Deep.LoopGhost
namespace Go.Proofs.YtncpjgpioajbeaaGreatDoor
open Go.RowKit

end Go.Proofs.YtncpjgpioajbeaaGreatDoor

namespace Go.Proofs.YtncpjgpioajbeaaGreatDoor
open Go.RowKit

end Go.Proofs.YtncpjgpioajbeaaGreatDoor
