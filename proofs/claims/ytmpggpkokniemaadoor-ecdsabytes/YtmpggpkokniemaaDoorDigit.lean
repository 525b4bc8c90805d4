import Derived.Test.YtmpggpkokniemaaDoorSets
import Derived.Test.YtmpggpkokniemaaDoorLeaf
import Derived.LoopN
import Derived.BigRegion
import Derived.Test.YtmpggpkokniemaaDoorDiv64
import Derived.Test.YtmpggpkokniemaaDoorLongNum
namespace Go.Proofs.YtmpggpkokniemaaDoor
open Go.RowKit

end Go.Proofs.YtmpggpkokniemaaDoor
