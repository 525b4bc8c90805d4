import Derived.Test.YtncpjgpioajbeaaGreatDoorSRWords
import Derived.Test.YtncpjgpioajbeaaGreatDoorSComp2
/- The document's rounds. -/
namespace Go.Proofs.YtncpjgpioajbeaaGreatDoor.S
open Go.RowKit Go.Sort

end Go.Proofs.YtncpjgpioajbeaaGreatDoor.S
