import Derived.Test.YtncpjgpioajbeaaGreatDoorSRComp
/- A block of another length; '==' of states. -/
namespace Go.Proofs.YtncpjgpioajbeaaGreatDoor.S
open Go.RowKit Go.Sort

end Go.Proofs.YtncpjgpioajbeaaGreatDoor.S
