import Derived.Test.YtdkfpakghpbofaaLeaf
import Derived.Test.YtdkfpakghpbofaaShelf
import Derived.Test.YtdkfpakghpbofaaTail
import Derived.Test.YtdkfpakghpbofaaDivNum
import Derived.LoopN
import Derived.Lib.ItoaNum
namespace Go.Proofs.Ytdkfpakghpbofaa
open Go.RowKit

end Go.Proofs.Ytdkfpakghpbofaa
