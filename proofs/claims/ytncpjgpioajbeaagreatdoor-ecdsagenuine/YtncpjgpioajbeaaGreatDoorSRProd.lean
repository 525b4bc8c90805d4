import Derived.Test.YtncpjgpioajbeaaGreatDoorSRRow
import Derived.Test.YtncpjgpioajbeaaGreatDoorTail
/- The document's product of rows of 16-bit digits. -/
namespace Go.Proofs.YtncpjgpioajbeaaGreatDoor.S
open Go.RowKit Go.Sort

end Go.Proofs.YtncpjgpioajbeaaGreatDoor.S
