import Derived.Test.YtidchaaahgnabaaDoorCmp
import Derived.Test.YtidchaaahgnabaaDoorTail
import Derived.Test.YtidchaaahgnabaaDoorShiftNum
namespace Go.Proofs.YtidchaaahgnabaaDoor
open Go.RowKit

end Go.Proofs.YtidchaaahgnabaaDoor

namespace Go.Proofs.YtidchaaahgnabaaDoor
open Go.RowKit

end Go.Proofs.YtidchaaahgnabaaDoor
