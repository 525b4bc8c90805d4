import Derived.Test.YtjhljoanhlodeaaDoorKRefNum
/- The permutation is one to one. -/
namespace Go.Proofs.YtjhljoanhlodeaaDoor

end Go.Proofs.YtjhljoanhlodeaaDoor
