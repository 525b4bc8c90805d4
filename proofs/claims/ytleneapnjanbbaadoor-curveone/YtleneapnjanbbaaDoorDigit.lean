import Derived.Test.YtleneapnjanbbaaDoorSets
import Derived.Test.YtleneapnjanbbaaDoorLeaf
import Derived.LoopN
import Derived.BigRegion
import Derived.Test.YtleneapnjanbbaaDoorDiv64
import Derived.Test.YtleneapnjanbbaaDoorLongNum
namespace Go.Proofs.YtleneapnjanbbaaDoor
open Go.RowKit

end Go.Proofs.YtleneapnjanbbaaDoor
