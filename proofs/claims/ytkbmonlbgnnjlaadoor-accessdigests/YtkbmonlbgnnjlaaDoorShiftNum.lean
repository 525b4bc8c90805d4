import Derived.Test.YtkbmonlbgnnjlaaDoorNum
import Derived.WalkKit
/- Shifts of a number of four limbs. -/
namespace Go.Proofs.YtkbmonlbgnnjlaaDoor
open Go.RowKit

end Go.Proofs.YtkbmonlbgnnjlaaDoor
