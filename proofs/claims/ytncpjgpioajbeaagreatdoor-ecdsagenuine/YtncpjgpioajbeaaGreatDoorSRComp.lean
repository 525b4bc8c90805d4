import Derived.Test.YtncpjgpioajbeaaGreatDoorSRRounds
/- The document's Start and Compress. -/
namespace Go.Proofs.YtncpjgpioajbeaaGreatDoor.S
open Go.RowKit Go.Sort

end Go.Proofs.YtncpjgpioajbeaaGreatDoor.S
