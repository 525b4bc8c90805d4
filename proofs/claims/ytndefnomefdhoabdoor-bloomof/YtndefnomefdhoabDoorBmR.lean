import Derived.Test.YtndefnomefdhoabDoorBmQ
import Derived.BigFrame
import Derived.Test.YtndefnomefdhoabDoorBmN
/- BloomHolds. -/
namespace Go.Proofs.YtndefnomefdhoabDoor
open Go.RowKit Go.Sort

end Go.Proofs.YtndefnomefdhoabDoor

/- Has; the document's filters. -/
namespace Go.Proofs.YtndefnomefdhoabDoor
open Go.RowKit Go.Sort

end Go.Proofs.YtndefnomefdhoabDoor
