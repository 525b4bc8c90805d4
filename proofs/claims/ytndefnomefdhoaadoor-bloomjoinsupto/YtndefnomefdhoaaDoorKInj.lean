import Derived.Test.YtndefnomefdhoaaDoorKRefNum
/- The permutation is one to one. -/
namespace Go.Proofs.YtndefnomefdhoaaDoor.K

end Go.Proofs.YtndefnomefdhoaaDoor.K
