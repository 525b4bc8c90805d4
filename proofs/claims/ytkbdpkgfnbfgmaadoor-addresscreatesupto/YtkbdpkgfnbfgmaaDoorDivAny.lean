import Derived.Test.YtkbdpkgfnbfgmaaDoorLen
import Derived.Test.YtkbdpkgfnbfgmaaDoorDigit
import Derived.Test.YtkbdpkgfnbfgmaaDoorCmp
import Derived.Test.YtkbdpkgfnbfgmaaDoorHold
import Derived.Deep.RegionWith
import Derived.Test.YtkbdpkgfnbfgmaaDoorNum
namespace Go.Proofs.YtkbdpkgfnbfgmaaDoor
open Go.RowKit

end Go.Proofs.YtkbdpkgfnbfgmaaDoor

namespace Go.Proofs.YtkbdpkgfnbfgmaaDoor
open Go.RowKit

end Go.Proofs.YtkbdpkgfnbfgmaaDoor
