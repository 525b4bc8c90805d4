import Derived.Test.YtncpjgpioajbeaaGreatDoorSRBits
import Derived.Laws.OwnMore
/- The document's primes and the first bits of their roots. -/
namespace Go.Proofs.YtncpjgpioajbeaaGreatDoor.S
open Go.RowKit Go.Sort

end Go.Proofs.YtncpjgpioajbeaaGreatDoor.S
