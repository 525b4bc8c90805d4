import Derived.Test.YtncpjgpioajbeaaGreatDoorNzF
import Derived.Test.YtncpjgpioajbeaaGreatDoorSRHd
import Derived.Test.YtncpjgpioajbeaaGreatDoorR6N
/- Nonces: the document's code and bytes. -/
namespace Go.Proofs.YtncpjgpioajbeaaGreatDoor
open Go.RowKit Go.Sort

end Go.Proofs.YtncpjgpioajbeaaGreatDoor
