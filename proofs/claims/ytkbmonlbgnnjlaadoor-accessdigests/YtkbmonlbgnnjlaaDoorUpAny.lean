import Derived.Test.YtkbmonlbgnnjlaaDoorCmp
import Derived.Test.YtkbmonlbgnnjlaaDoorTail
import Derived.Test.YtkbmonlbgnnjlaaDoorShiftNum
namespace Go.Proofs.YtkbmonlbgnnjlaaDoor
open Go.RowKit

end Go.Proofs.YtkbmonlbgnnjlaaDoor

namespace Go.Proofs.YtkbmonlbgnnjlaaDoor
open Go.RowKit

end Go.Proofs.YtkbmonlbgnnjlaaDoor
