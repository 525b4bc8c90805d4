import Derived.Test.YtnokgnhcnhfkpaaDoorSets
import Derived.Test.YtnokgnhcnhfkpaaDoorLeaf
import Derived.LoopN
import Derived.BigRegion
import Derived.Test.YtnokgnhcnhfkpaaDoorDiv64
import Derived.Test.YtnokgnhcnhfkpaaDoorMulNum
namespace Go.Proofs.YtnokgnhcnhfkpaaDoor
open Go.RowKit

end Go.Proofs.YtnokgnhcnhfkpaaDoor
