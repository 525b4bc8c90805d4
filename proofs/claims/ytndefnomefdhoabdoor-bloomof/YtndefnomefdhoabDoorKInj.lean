import Derived.Test.YtndefnomefdhoabDoorKRefNum
/- The permutation is one to one. -/
namespace Go.Proofs.YtndefnomefdhoabDoor.K

end Go.Proofs.YtndefnomefdhoabDoor.K
