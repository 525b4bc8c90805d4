import Derived.Test.YtjlilnjggmelgaaDoorLeaf
import Derived.Test.YtjlilnjggmelgaaDoorShelf
import Derived.Test.YtjlilnjggmelgaaDoorTail
import Derived.Test.YtjlilnjggmelgaaDoorNum
import Derived.LoopN
import Derived.Lib.ItoaNum
namespace Go.Proofs.YtjlilnjggmelgaaDoor
open Go.RowKit

end Go.Proofs.YtjlilnjggmelgaaDoor
