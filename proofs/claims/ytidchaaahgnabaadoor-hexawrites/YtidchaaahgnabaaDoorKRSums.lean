import Derived.Test.YtidchaaahgnabaaDoorKRDigest
namespace Go.Proofs.YtidchaaahgnabaaDoor
open Go.RowKit Go.Sort

end Go.Proofs.YtidchaaahgnabaaDoor
