import Derived.Test.YthbfefalgigbeaaDoorCmp
import Derived.StillTail
import Derived.BigQuiet
import Derived.Below
import Derived.Test.YthbfefalgigbeaaDoorMulNum
import Derived.Lib.QuietBelow
import Derived.Deep.RegionHeld
namespace Go.Proofs.YthbfefalgigbeaaDoor
open Go.RowKit Go.Sort

theorem cell_keep {W w1 : World} {p : Addr} {v : Value} (hb : Below W.heap.size W w1) (h : W.cell? p = some v) : w1.cell? p = some v := by
  rw [hb.cell (World.block_lt_of_cell? W p h)]; exact h
end Go.Proofs.YthbfefalgigbeaaDoor
