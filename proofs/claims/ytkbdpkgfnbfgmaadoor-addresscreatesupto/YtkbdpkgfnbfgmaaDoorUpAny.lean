import Derived.Test.YtkbdpkgfnbfgmaaDoorCmp
import Derived.Test.YtkbdpkgfnbfgmaaDoorTail
import Derived.Test.YtkbdpkgfnbfgmaaDoorShiftNum
namespace Go.Proofs.YtkbdpkgfnbfgmaaDoor
open Go.RowKit

end Go.Proofs.YtkbdpkgfnbfgmaaDoor

namespace Go.Proofs.YtkbdpkgfnbfgmaaDoor
open Go.RowKit

end Go.Proofs.YtkbdpkgfnbfgmaaDoor
