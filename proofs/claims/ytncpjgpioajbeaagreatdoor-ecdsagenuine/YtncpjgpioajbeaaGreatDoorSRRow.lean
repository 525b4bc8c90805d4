import Derived.Test.YtncpjgpioajbeaaGreatDoorSRNum
/- Rows of whole numbers in blocks. -/
namespace Go.Proofs.YtncpjgpioajbeaaGreatDoor.S
open Go.RowKit Go.Sort

end Go.Proofs.YtncpjgpioajbeaaGreatDoor.S
