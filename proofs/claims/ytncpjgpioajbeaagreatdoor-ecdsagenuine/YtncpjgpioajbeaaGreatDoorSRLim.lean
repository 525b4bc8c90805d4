import Derived.Test.YtncpjgpioajbeaaGreatDoorSRProd
/- The document's limbs and atMost. -/
namespace Go.Proofs.YtncpjgpioajbeaaGreatDoor.S
open Go.RowKit Go.Sort

end Go.Proofs.YtncpjgpioajbeaaGreatDoor.S
