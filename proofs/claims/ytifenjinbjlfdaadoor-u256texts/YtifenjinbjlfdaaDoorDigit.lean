import Derived.Test.YtifenjinbjlfdaaDoorSets
import Derived.Test.YtifenjinbjlfdaaDoorLeaf
import Derived.LoopN
import Derived.BigRegion
import Derived.Test.YtifenjinbjlfdaaDoorDiv64
import Derived.Test.YtifenjinbjlfdaaDoorMulNum
namespace Go.Proofs.YtifenjinbjlfdaaDoor
open Go.RowKit

end Go.Proofs.YtifenjinbjlfdaaDoor
