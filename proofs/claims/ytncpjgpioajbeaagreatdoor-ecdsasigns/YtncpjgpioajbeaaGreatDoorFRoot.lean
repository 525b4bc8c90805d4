import Derived.Test.YtncpjgpioajbeaaGreatDoorFAdd
import Derived.Test.YtncpjgpioajbeaaGreatDoorFOf
namespace Go.Proofs.YtncpjgpioajbeaaGreatDoor
open Go.RowKit Go.Sort

end Go.Proofs.YtncpjgpioajbeaaGreatDoor
