import Derived.Test.YtdkfpakghpbofaaLen
import Derived.Test.YtdkfpakghpbofaaDigit
import Derived.Test.YtdkfpakghpbofaaLift
import Derived.Test.YtdkfpakghpbofaaRow2
import Derived.Deep.RegionWith
namespace Go.Proofs.Ytdkfpakghpbofaa
open Go.RowKit

end Go.Proofs.Ytdkfpakghpbofaa
