import Derived.Test.YtncpjgpioajbeaaGreatDoorSRWhole
import Derived.Test.YtncpjgpioajbeaaGreatDoorSSums
import Derived.Test.YtncpjgpioajbeaaGreatDoorSEqH
/- ShaSums. -/
namespace Go.Proofs.YtncpjgpioajbeaaGreatDoor.S
open Go.RowKit Go.Sort

/-- A part turned. -/
def fp (q : Part) : Part := { q with X := flipB q.X }
end Go.Proofs.YtncpjgpioajbeaaGreatDoor.S
