import Derived.Test.YtndefnomefdhoabDoorKBase
namespace Go.Proofs.YtndefnomefdhoabDoor.K
open Go.RowKit Go.Sort

end Go.Proofs.YtndefnomefdhoabDoor.K
