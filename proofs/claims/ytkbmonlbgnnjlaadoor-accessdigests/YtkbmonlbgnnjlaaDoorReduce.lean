import Derived.Test.YtkbmonlbgnnjlaaDoorDivAny
import Derived.Test.YtkbmonlbgnnjlaaDoorQTail
import Derived.Test.YtkbmonlbgnnjlaaDoorCmp
import Derived.Test.YtkbmonlbgnnjlaaDoorTail
import Derived.Test.YtkbmonlbgnnjlaaDoorNum
import Derived.Test.YtkbmonlbgnnjlaaDoorHold
import Derived.Deep.RegionHeld3
namespace Go.Proofs.YtkbmonlbgnnjlaaDoor
open Go.RowKit Go.Sort

end Go.Proofs.YtkbmonlbgnnjlaaDoor
