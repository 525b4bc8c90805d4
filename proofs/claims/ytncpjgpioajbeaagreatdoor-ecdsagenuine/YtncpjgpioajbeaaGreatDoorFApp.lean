import Derived.Test.YtncpjgpioajbeaaGreatDoorFSame
import Derived.Maps.AppendAt
import Derived.Laws.OwnMore
/- Lists of numbers that an append gathers. -/
namespace Go.Proofs.YtncpjgpioajbeaaGreatDoor
open Go.RowKit Go.Sort

end Go.Proofs.YtncpjgpioajbeaaGreatDoor
