import Derived.Test.YtkbdpkgfnbfgmaaDoorSets
import Derived.Test.YtkbdpkgfnbfgmaaDoorLeaf
import Derived.LoopN
import Derived.BigRegion
import Derived.Test.YtkbdpkgfnbfgmaaDoorDiv64
import Derived.Test.YtkbdpkgfnbfgmaaDoorLongNum
namespace Go.Proofs.YtkbdpkgfnbfgmaaDoor
open Go.RowKit

end Go.Proofs.YtkbdpkgfnbfgmaaDoor
