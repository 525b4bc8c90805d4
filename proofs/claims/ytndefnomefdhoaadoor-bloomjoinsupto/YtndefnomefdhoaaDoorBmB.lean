import Derived.Test.YtndefnomefdhoaaDoorBmA
import Derived.Test.YtndefnomefdhoaaDoorQTail
/- The document's filters. -/
namespace Go.Proofs.YtndefnomefdhoaaDoor
open Go.RowKit Go.Sort

end Go.Proofs.YtndefnomefdhoaaDoor
