import Derived.Test.YtnjmdncnkijijaaDoorDivAny
import Derived.Test.YtnjmdncnkijijaaDoorQTail
import Derived.Test.YtnjmdncnkijijaaDoorAdd
import Derived.Test.YtnjmdncnkijijaaDoorTail
import Derived.Test.YtnjmdncnkijijaaDoorNum
import Derived.Test.YtnjmdncnkijijaaDoorHold
import Derived.Deep.RegionHeld3
namespace Go.Proofs.YtnjmdncnkijijaaDoor
open Go.RowKit Go.Sort

end Go.Proofs.YtnjmdncnkijijaaDoor
