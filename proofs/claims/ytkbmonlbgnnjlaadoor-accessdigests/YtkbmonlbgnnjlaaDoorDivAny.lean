import Derived.Test.YtkbmonlbgnnjlaaDoorLen
import Derived.Test.YtkbmonlbgnnjlaaDoorDigit
import Derived.Test.YtkbmonlbgnnjlaaDoorCmp
import Derived.Test.YtkbmonlbgnnjlaaDoorHold
import Derived.Deep.RegionWith
import Derived.Test.YtkbmonlbgnnjlaaDoorNum
namespace Go.Proofs.YtkbmonlbgnnjlaaDoor
open Go.RowKit

end Go.Proofs.YtkbmonlbgnnjlaaDoor

namespace Go.Proofs.YtkbmonlbgnnjlaaDoor
open Go.RowKit

end Go.Proofs.YtkbmonlbgnnjlaaDoor
