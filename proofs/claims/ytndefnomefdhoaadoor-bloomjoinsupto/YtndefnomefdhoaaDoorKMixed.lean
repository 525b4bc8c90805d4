import Derived.Test.YtndefnomefdhoaaDoorKRefNum
import Derived.Test.YtndefnomefdhoaaDoorKPerm
import Derived.Test.YtndefnomefdhoaaDoorTail
namespace Go.Proofs.YtndefnomefdhoaaDoor.K
open Go.RowKit Go.Sort

end Go.Proofs.YtndefnomefdhoaaDoor.K
