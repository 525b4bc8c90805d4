import Derived.Test.YtkbdpkgfnbfgmaaDoorNum
import Derived.WalkKit
/- Shifts of a number of four limbs. -/
namespace Go.Proofs.YtkbdpkgfnbfgmaaDoor
open Go.RowKit

end Go.Proofs.YtkbdpkgfnbfgmaaDoor
