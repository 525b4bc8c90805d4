import Derived.Test.YtncpjgpioajbeaaGreatDoorFRootAny
import Derived.Test.YtncpjgpioajbeaaGreatDoorFRefY
namespace Go.Proofs.YtncpjgpioajbeaaGreatDoor
open Go.RowKit Go.Sort

end Go.Proofs.YtncpjgpioajbeaaGreatDoor
