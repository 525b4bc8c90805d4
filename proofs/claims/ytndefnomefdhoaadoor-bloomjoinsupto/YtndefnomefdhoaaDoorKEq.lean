import Derived.Test.YtndefnomefdhoaaDoorKBase
namespace Go.Proofs.YtndefnomefdhoaaDoor.K
open Go.RowKit Go.Sort

end Go.Proofs.YtndefnomefdhoaaDoor.K
