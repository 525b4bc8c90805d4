import Derived.Test.YtdkfpakghpbofaaGetNum
import Derived.Test.YtdkfpakghpbofaaRowHold
import Derived.Test.YtdkfpakghpbofaaLen
import Derived.Test.YtdkfpakghpbofaaCmp
import Derived.Test.YtdkfpakghpbofaaTail
import Derived.Test.YtdkfpakghpbofaaMulNum
import Derived.Test.YtdkfpakghpbofaaOut
import Derived.Test.YtdkfpakghpbofaaUpAny
import Derived.Deep.LoopGhost
import Derived.Test.YtdkfpakghpbofaaRowB
namespace Go.Proofs.Ytdkfpakghpbofaa
open Go.RowKit

end Go.Proofs.Ytdkfpakghpbofaa

namespace Go.Proofs.Ytdkfpakghpbofaa
open Go.RowKit

end Go.Proofs.Ytdkfpakghpbofaa
