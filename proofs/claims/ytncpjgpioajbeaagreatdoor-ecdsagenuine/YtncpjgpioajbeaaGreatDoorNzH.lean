import Derived.Test.YtncpjgpioajbeaaGreatDoorNzG
import Derived.Test.YtncpjgpioajbeaaGreatDoorFAppK
import Derived.Maps.AppendAt
/- Nonces: the document's candidates. -/
namespace Go.Proofs.YtncpjgpioajbeaaGreatDoor
open Go.RowKit Go.Sort

end Go.Proofs.YtncpjgpioajbeaaGreatDoor
