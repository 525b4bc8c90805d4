import Derived.Test.YtidchaaahgnabaaDoorKSpec
import Derived.WalkKit
/- Shifts of a number of four limbs. -/
namespace Go.Proofs.YtidchaaahgnabaaDoor
open Go.RowKit

end Go.Proofs.YtidchaaahgnabaaDoor
