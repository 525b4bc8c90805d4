import Derived.Test.YtncpjgpioajbeaaGreatDoorSRLent
import Derived.Test.YtncpjgpioajbeaaGreatDoorSPad
import Derived.Test.YtncpjgpioajbeaaGreatDoorTail
import Derived.Laws.OwnMore
import Derived.Test.YtncpjgpioajbeaaGreatDoorSComp
import Derived.Deep.AppendLies
import Derived.Test.YtncpjgpioajbeaaGreatDoorQTail
import Derived.Test.YtncpjgpioajbeaaGreatDoorSRLaw
import Derived.Test.YtncpjgpioajbeaaGreatDoorSTx
import Derived.Test.YtncpjgpioajbeaaGreatDoorSBase
/- ShaSums. -/
namespace Go.Proofs.YtncpjgpioajbeaaGreatDoor.S
open Go.RowKit Go.Sort

/-- A part turned. -/
def fp (q : Part) : Part := { q with X := flipB q.X }
end Go.Proofs.YtncpjgpioajbeaaGreatDoor.S
