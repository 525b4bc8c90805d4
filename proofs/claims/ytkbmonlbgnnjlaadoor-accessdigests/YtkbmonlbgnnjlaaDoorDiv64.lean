import Derived.Test.YtkbmonlbgnnjlaaDoorLeaf
import Derived.Test.YtkbmonlbgnnjlaaDoorShelf
import Derived.Test.YtkbmonlbgnnjlaaDoorTail
import Derived.Test.YtkbmonlbgnnjlaaDoorLongNum
import Derived.LoopN
import Derived.Lib.ItoaNum
namespace Go.Proofs.YtkbmonlbgnnjlaaDoor
open Go.RowKit

end Go.Proofs.YtkbmonlbgnnjlaaDoor
