import Derived.Test.YtnjmdncnkijijaaDoorLeaf
import Derived.Test.YtnjmdncnkijijaaDoorShelf
import Derived.Test.YtnjmdncnkijijaaDoorTail
import Derived.Test.YtnjmdncnkijijaaDoorNum
import Derived.LoopN
import Derived.Lib.ItoaNum
namespace Go.Proofs.YtnjmdncnkijijaaDoor
open Go.RowKit

end Go.Proofs.YtnjmdncnkijijaaDoor
