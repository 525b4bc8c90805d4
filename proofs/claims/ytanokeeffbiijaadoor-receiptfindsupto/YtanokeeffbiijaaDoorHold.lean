import Derived.Test.YtanokeeffbiijaaDoorRows
import Derived.Test.YtanokeeffbiijaaDoorNum
import Derived.WalkKit
import Derived.WalkSpells
import Derived.WalkLawsBesides
import Derived.Laws.Externs
import Derived.Shelf.Spec.BitsCarry
import Derived.Lib.Mul64
import Derived.Laws.Bits64b
import Derived.LoopN
import Derived.BigRegion
import Derived.Deep.RegionWith
import Derived.StillTail
import Derived.BigQuiet
import Derived.Below
import Derived.Test.YtanokeeffbiijaaDoorMulNum
import Derived.Lib.QuietBelow
import Derived.Deep.RegionHeld
namespace Go.Proofs.YtanokeeffbiijaaDoor
open Go.RowKit Go.Sort

theorem cell_keep {W w1 : World} {p : Addr} {v : Value} (hb : Below W.heap.size W w1) (h : W.cell? p = some v) : w1.cell? p = some v := by
  rw [hb.cell (World.block_lt_of_cell? W p h)]; exact h
theorem wp_world {P : Program} {c : Code} {Q : Exit → Act → World → Prop} {a : Act} {w : World} (S : World → Prop) (h : S w) (k : ∀ W, S W → c.wp P Q a W) : c.wp P Q a w := k w h

end Go.Proofs.YtanokeeffbiijaaDoor
