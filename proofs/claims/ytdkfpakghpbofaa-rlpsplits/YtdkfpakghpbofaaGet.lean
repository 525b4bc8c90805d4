import Derived.Test.YtdkfpakghpbofaaGetNum
import Derived.Test.YtdkfpakghpbofaaVars
import Derived.Test.YtdkfpakghpbofaaExpNum
import Derived.Test.YtdkfpakghpbofaaRowHold
import Derived.Test.YtdkfpakghpbofaaLen
import Derived.Test.YtdkfpakghpbofaaCmp
import Derived.Test.YtdkfpakghpbofaaTail
import Derived.Test.YtdkfpakghpbofaaMulNum
import Derived.Test.YtdkfpakghpbofaaOut
import Derived.Test.YtdkfpakghpbofaaShl
import Derived.Deep.LoopGhost
namespace Go.Proofs.Ytdkfpakghpbofaa
open Go.RowKit

end Go.Proofs.Ytdkfpakghpbofaa
