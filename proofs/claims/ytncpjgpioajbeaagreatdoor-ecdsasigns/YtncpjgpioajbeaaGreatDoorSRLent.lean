import Derived.Test.YtncpjgpioajbeaaGreatDoorSCopied
import Derived.Test.YtncpjgpioajbeaaGreatDoorTail
import Derived.Laws.OwnMore
namespace Go.Proofs.YtncpjgpioajbeaaGreatDoor.S
open Go.RowKit Go.Sort

end Go.Proofs.YtncpjgpioajbeaaGreatDoor.S
