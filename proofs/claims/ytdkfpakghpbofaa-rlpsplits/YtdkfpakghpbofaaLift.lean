import Derived.Test.YtdkfpakghpbofaaShiftNum
import Derived.Test.YtdkfpakghpbofaaLongNum
import Derived.Test.YtdkfpakghpbofaaLeaf
import Derived.LoopN
import Derived.BigRegion
import Derived.Deep.RegionWith
namespace Go.Proofs.Ytdkfpakghpbofaa
open Go.RowKit

end Go.Proofs.Ytdkfpakghpbofaa
