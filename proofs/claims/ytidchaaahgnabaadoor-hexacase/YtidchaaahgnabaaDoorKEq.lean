import Derived.Test.YtidchaaahgnabaaDoorKBase
namespace Go.Proofs.YtidchaaahgnabaaDoor
open Go.RowKit Go.Sort

end Go.Proofs.YtidchaaahgnabaaDoor
