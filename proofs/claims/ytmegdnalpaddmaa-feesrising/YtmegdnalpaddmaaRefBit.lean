import Derived.Test.YtmegdnalpaddmaaLen
import Derived.Test.YtmegdnalpaddmaaHold
import Derived.Test.YtmegdnalpaddmaaExpNum
import Derived.Test.YtmegdnalpaddmaaRowHold
namespace Go.Proofs.Ytmegdnalpaddmaa
open Go.RowKit

end Go.Proofs.Ytmegdnalpaddmaa

/- A bit put in below all that are there. -/
namespace Go.Proofs.Ytmegdnalpaddmaa
open Go.RowKit

end Go.Proofs.Ytmegdnalpaddmaa

/- Division bit by bit, in numbers. -/
namespace Go.Proofs.Ytmegdnalpaddmaa

end Go.Proofs.Ytmegdnalpaddmaa

namespace Go.Proofs.Ytmegdnalpaddmaa
open Go.RowKit

end Go.Proofs.Ytmegdnalpaddmaa
