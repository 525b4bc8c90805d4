import Derived.Test.YtidchaaahgnabaaDoorHxCheck
namespace Go.Proofs.YtidchaaahgnabaaDoor
open Go.RowKit Go.Sort

end Go.Proofs.YtidchaaahgnabaaDoor
