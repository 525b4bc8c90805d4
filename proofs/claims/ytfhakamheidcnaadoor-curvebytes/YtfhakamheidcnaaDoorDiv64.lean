import Derived.Test.YtfhakamheidcnaaDoorLeaf
import Derived.Test.YtfhakamheidcnaaDoorShelf
import Derived.Test.YtfhakamheidcnaaDoorTail
import Derived.Test.YtfhakamheidcnaaDoorLongNum
import Derived.LoopN
import Derived.Lib.ItoaNum
namespace Go.Proofs.YtfhakamheidcnaaDoor
open Go.RowKit

end Go.Proofs.YtfhakamheidcnaaDoor
