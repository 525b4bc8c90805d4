import Derived.Test.YtidchaaahgnabaaDoorKCols
namespace Go.Proofs.YtidchaaahgnabaaDoor
open Go.RowKit Go.Sort

theorem lanes_size {L : List (BitVec 64)} (h : L.length = 25) : ((lanes L).toArray).size = 25 := by simp [lanes_len, h]

end Go.Proofs.YtidchaaahgnabaaDoor
