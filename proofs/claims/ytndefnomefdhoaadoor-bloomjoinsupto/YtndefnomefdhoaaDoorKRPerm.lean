import Derived.Test.YtndefnomefdhoaaDoorKCols
namespace Go.Proofs.YtndefnomefdhoaaDoor.K
open Go.RowKit Go.Sort

theorem lanes_size {L : List (BitVec 64)} (h : L.length = 25) : ((lanes L).toArray).size = 25 := by simp [lanes_len, h]

end Go.Proofs.YtndefnomefdhoaaDoor.K
