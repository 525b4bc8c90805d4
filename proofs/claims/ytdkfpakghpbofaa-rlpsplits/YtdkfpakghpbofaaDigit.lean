import Derived.Test.YtdkfpakghpbofaaSets
import Derived.Test.YtdkfpakghpbofaaLeaf
import Derived.LoopN
import Derived.BigRegion
import Derived.Test.YtdkfpakghpbofaaDiv64
import Derived.Test.YtdkfpakghpbofaaMulNum
namespace Go.Proofs.Ytdkfpakghpbofaa
open Go.RowKit

end Go.Proofs.Ytdkfpakghpbofaa
