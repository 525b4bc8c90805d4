import Derived.Test.YtidchaaahgnabaaDoorKMixed
namespace Go.Proofs.YtidchaaahgnabaaDoor
open Go.RowKit Go.Sort

end Go.Proofs.YtidchaaahgnabaaDoor
