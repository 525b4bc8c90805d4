import Derived.Test.YtnjmdncnkijijaaDoorSets
import Derived.Test.YtnjmdncnkijijaaDoorLeaf
import Derived.LoopN
import Derived.BigRegion
import Derived.Test.YtnjmdncnkijijaaDoorDiv64
import Derived.Test.YtnjmdncnkijijaaDoorNum
namespace Go.Proofs.YtnjmdncnkijijaaDoor
open Go.RowKit

end Go.Proofs.YtnjmdncnkijijaaDoor
