import Derived.Test.YtncpjgpioajbeaaGreatDoorSRLim
/- The document's bits: roots by halving. -/
namespace Go.Proofs.YtncpjgpioajbeaaGreatDoor.S
open Go.RowKit Go.Sort

end Go.Proofs.YtncpjgpioajbeaaGreatDoor.S
