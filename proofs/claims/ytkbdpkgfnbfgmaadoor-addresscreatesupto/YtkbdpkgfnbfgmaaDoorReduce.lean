import Derived.Test.YtkbdpkgfnbfgmaaDoorDivAny
import Derived.Test.YtkbdpkgfnbfgmaaDoorQTail
import Derived.Test.YtkbdpkgfnbfgmaaDoorCmp
import Derived.Test.YtkbdpkgfnbfgmaaDoorTail
import Derived.Test.YtkbdpkgfnbfgmaaDoorNum
import Derived.Test.YtkbdpkgfnbfgmaaDoorHold
import Derived.Deep.RegionHeld3
namespace Go.Proofs.YtkbdpkgfnbfgmaaDoor
open Go.RowKit Go.Sort

end Go.Proofs.YtkbdpkgfnbfgmaaDoor
