import Derived.Test.YtjlilnjggmelgaaDoorSets
import Derived.Test.YtjlilnjggmelgaaDoorLeaf
import Derived.LoopN
import Derived.BigRegion
import Derived.Test.YtjlilnjggmelgaaDoorDiv64
import Derived.Test.YtjlilnjggmelgaaDoorNum
namespace Go.Proofs.YtjlilnjggmelgaaDoor
open Go.RowKit

end Go.Proofs.YtjlilnjggmelgaaDoor
