import Derived.Test.YtleneapnjanbbaaDoorLeaf
import Derived.Test.YtleneapnjanbbaaDoorShelf
import Derived.Test.YtleneapnjanbbaaDoorTail
import Derived.Test.YtleneapnjanbbaaDoorLongNum
import Derived.LoopN
import Derived.Lib.ItoaNum
namespace Go.Proofs.YtleneapnjanbbaaDoor
open Go.RowKit

end Go.Proofs.YtleneapnjanbbaaDoor
