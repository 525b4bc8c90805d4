import Derived.Test.YtncpjgpioajbeaaGreatDoorSRHa
import Derived.Test.YtncpjgpioajbeaaGreatDoorSRSumsLaw
namespace Go.Proofs.YtncpjgpioajbeaaGreatDoor.S
open Go.RowKit Go.Sort

end Go.Proofs.YtncpjgpioajbeaaGreatDoor.S
