import Derived.Test.YtncpjgpioajbeaaGreatDoorNzH
/- Nonces: the document's choice. -/
namespace Go.Proofs.YtncpjgpioajbeaaGreatDoor
open Go.RowKit Go.Sort

end Go.Proofs.YtncpjgpioajbeaaGreatDoor
