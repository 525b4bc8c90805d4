import Derived.Test.YtfhakamheidcnaaDoorSets
import Derived.Test.YtfhakamheidcnaaDoorLeaf
import Derived.LoopN
import Derived.BigRegion
import Derived.Test.YtfhakamheidcnaaDoorDiv64
import Derived.Test.YtfhakamheidcnaaDoorLongNum
namespace Go.Proofs.YtfhakamheidcnaaDoor
open Go.RowKit

end Go.Proofs.YtfhakamheidcnaaDoor
