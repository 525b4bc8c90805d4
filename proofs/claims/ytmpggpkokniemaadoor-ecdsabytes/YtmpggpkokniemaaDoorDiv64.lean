import Derived.Test.YtmpggpkokniemaaDoorLeaf
import Derived.Test.YtmpggpkokniemaaDoorShelf
import Derived.Test.YtmpggpkokniemaaDoorTail
import Derived.Test.YtmpggpkokniemaaDoorLongNum
import Derived.LoopN
import Derived.Lib.ItoaNum
namespace Go.Proofs.YtmpggpkokniemaaDoor
open Go.RowKit

end Go.Proofs.YtmpggpkokniemaaDoor
