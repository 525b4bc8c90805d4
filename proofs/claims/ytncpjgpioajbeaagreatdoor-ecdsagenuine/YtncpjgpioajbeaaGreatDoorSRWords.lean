import Derived.Test.YtncpjgpioajbeaaGreatDoorSRWord
import Derived.Deep.AppendLies
/- The document's words of a block. -/
namespace Go.Proofs.YtncpjgpioajbeaaGreatDoor.S
open Go.RowKit Go.Sort

end Go.Proofs.YtncpjgpioajbeaaGreatDoor.S
