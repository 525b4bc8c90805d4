import Derived.Test.YtncpjgpioajbeaaGreatDoorSRLent
import Derived.Test.YtncpjgpioajbeaaGreatDoorSRDig
namespace Go.Proofs.YtncpjgpioajbeaaGreatDoor.S
open Go.RowKit Go.Sort

end Go.Proofs.YtncpjgpioajbeaaGreatDoor.S
