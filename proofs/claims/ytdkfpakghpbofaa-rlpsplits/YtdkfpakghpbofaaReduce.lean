import Derived.Test.YtdkfpakghpbofaaDivAny
import Derived.Test.YtdkfpakghpbofaaQTail
import Derived.Test.YtdkfpakghpbofaaCmp
import Derived.Test.YtdkfpakghpbofaaTail
import Derived.Test.YtdkfpakghpbofaaMulNum
import Derived.Test.YtdkfpakghpbofaaHold
import Derived.Test.YtdkfpakghpbofaaRow
import Derived.Deep.RegionHeld3
namespace Go.Proofs.Ytdkfpakghpbofaa
open Go.RowKit Go.Sort

end Go.Proofs.Ytdkfpakghpbofaa
