import Derived.Test.YtkbmonlbgnnjlaaDoorSets
import Derived.Test.YtkbmonlbgnnjlaaDoorLeaf
import Derived.LoopN
import Derived.BigRegion
import Derived.Test.YtkbmonlbgnnjlaaDoorDiv64
import Derived.Test.YtkbmonlbgnnjlaaDoorLongNum
namespace Go.Proofs.YtkbmonlbgnnjlaaDoor
open Go.RowKit

end Go.Proofs.YtkbmonlbgnnjlaaDoor
