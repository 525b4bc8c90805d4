import Derived.Test.YtncpjgpioajbeaaGreatDoorNzI
/- Nonce of the document. -/
namespace Go.Proofs.YtncpjgpioajbeaaGreatDoor
open Go.RowKit Go.Sort

end Go.Proofs.YtncpjgpioajbeaaGreatDoor
