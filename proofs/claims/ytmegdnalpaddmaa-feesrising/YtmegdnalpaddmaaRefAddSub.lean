import Derived.Test.YtmegdnalpaddmaaRef1
import Derived.Test.YtmegdnalpaddmaaRowHold
import Derived.Test.YtmegdnalpaddmaaLen
import Derived.Deep.LoopGhost
import Derived.Test.YtmegdnalpaddmaaExpNum
import Derived.Test.YtmegdnalpaddmaaCmp
import Derived.Test.YtmegdnalpaddmaaMul2
import Derived.Test.YtmegdnalpaddmaaOut
namespace Go.Proofs.Ytmegdnalpaddmaa
open Go.RowKit

end Go.Proofs.Ytmegdnalpaddmaa

namespace Go.Proofs.Ytmegdnalpaddmaa
open Go.RowKit

end Go.Proofs.Ytmegdnalpaddmaa

namespace Go.Proofs.Ytmegdnalpaddmaa
open Go.RowKit

end Go.Proofs.Ytmegdnalpaddmaa
