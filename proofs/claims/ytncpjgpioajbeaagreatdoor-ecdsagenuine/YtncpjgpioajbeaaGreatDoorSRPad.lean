import Derived.Test.YtncpjgpioajbeaaGreatDoorSRJoin
import Derived.Test.YtncpjgpioajbeaaGreatDoorSPad
import Derived.Test.YtncpjgpioajbeaaGreatDoorSRRounds
/- The document's Pad. -/
namespace Go.Proofs.YtncpjgpioajbeaaGreatDoor.S
open Go.RowKit Go.Sort

end Go.Proofs.YtncpjgpioajbeaaGreatDoor.S
