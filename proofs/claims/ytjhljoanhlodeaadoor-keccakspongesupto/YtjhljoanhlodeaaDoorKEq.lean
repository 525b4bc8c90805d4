import Derived.Test.YtjhljoanhlodeaaDoorKBase
namespace Go.Proofs.YtjhljoanhlodeaaDoor
open Go.RowKit Go.Sort

end Go.Proofs.YtjhljoanhlodeaaDoor
