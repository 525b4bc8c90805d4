import Derived.Test.YtkbdpkgfnbfgmaaDoorLeaf
import Derived.Test.YtkbdpkgfnbfgmaaDoorShelf
import Derived.Test.YtkbdpkgfnbfgmaaDoorTail
import Derived.Test.YtkbdpkgfnbfgmaaDoorLongNum
import Derived.LoopN
import Derived.Lib.ItoaNum
namespace Go.Proofs.YtkbdpkgfnbfgmaaDoor
open Go.RowKit

end Go.Proofs.YtkbdpkgfnbfgmaaDoor
