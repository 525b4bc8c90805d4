import Derived.Test.YtidchaaahgnabaaDoorKRefNum
import Derived.Test.YtidchaaahgnabaaDoorKPerm
import Derived.Test.YtidchaaahgnabaaDoorTail
namespace Go.Proofs.YtidchaaahgnabaaDoor
open Go.RowKit Go.Sort

end Go.Proofs.YtidchaaahgnabaaDoor
