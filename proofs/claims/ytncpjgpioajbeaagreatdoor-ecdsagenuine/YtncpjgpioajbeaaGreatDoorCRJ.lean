import Derived.Test.YtncpjgpioajbeaaGreatDoorCRBoth
import Derived.Test.YtncpjgpioajbeaaGreatDoorFRInv
namespace Go.Proofs.YtncpjgpioajbeaaGreatDoor
open Go.RowKit Go.Sort

end Go.Proofs.YtncpjgpioajbeaaGreatDoor
