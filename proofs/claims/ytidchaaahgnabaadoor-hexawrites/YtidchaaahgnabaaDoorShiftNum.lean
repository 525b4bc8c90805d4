import Derived.Test.YtidchaaahgnabaaDoorMulNum
import Derived.WalkKit
/- Shifts of a number of four limbs. -/
namespace Go.Proofs.YtidchaaahgnabaaDoor
open Go.RowKit

end Go.Proofs.YtidchaaahgnabaaDoor
