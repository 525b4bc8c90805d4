import Derived.Test.YtncpjgpioajbeaaGreatDoorSRParcel
import Derived.Test.YtncpjgpioajbeaaGreatDoorSFills
import Derived.Test.YtncpjgpioajbeaaGreatDoorSRLaw
/- The statement's whole: parcels that are as they were. -/
namespace Go.Proofs.YtncpjgpioajbeaaGreatDoor.S
open Go.RowKit Go.Sort

end Go.Proofs.YtncpjgpioajbeaaGreatDoor.S
