import Derived.Test.YtndefnomefdhoaaDoorKMixed
namespace Go.Proofs.YtndefnomefdhoaaDoor.K
open Go.RowKit Go.Sort

end Go.Proofs.YtndefnomefdhoaaDoor.K
