import Derived.Test.YtncpjgpioajbeaaGreatDoorFRefY
import Derived.Test.YtncpjgpioajbeaaGreatDoorFInv
namespace Go.Proofs.YtncpjgpioajbeaaGreatDoor
open Go.RowKit Go.Sort

end Go.Proofs.YtncpjgpioajbeaaGreatDoor
