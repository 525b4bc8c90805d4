import Derived.Test.YtidchaaahgnabaaDoorKRefNum
/- The permutation is one to one. -/
namespace Go.Proofs.YtidchaaahgnabaaDoor

end Go.Proofs.YtidchaaahgnabaaDoor
