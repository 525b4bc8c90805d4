import Derived.Test.YtdkfpakghpbofaaLen
import Derived.Test.YtdkfpakghpbofaaDigit
import Derived.Test.YtdkfpakghpbofaaCmp
import Derived.Test.YtdkfpakghpbofaaRow
import Derived.Deep.RegionWith
namespace Go.Proofs.Ytdkfpakghpbofaa
open Go.RowKit

end Go.Proofs.Ytdkfpakghpbofaa
