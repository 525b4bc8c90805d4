import Derived.Test.YtmcpljgojdoniaaDoorRowB
import Derived.Lib.QuietBelow
import Derived.Deep.RegionHeld
import Derived.Test.YtmcpljgojdoniaaDoorHold
import Derived.Test.YtmcpljgojdoniaaDoorRows
import Derived.Test.YtmcpljgojdoniaaDoorNum
import Derived.WalkKit
import Derived.WalkSpells
import Derived.WalkLawsBesides
import Derived.Laws.Externs
import Derived.Shelf.Spec.BitsCarry
import Derived.Lib.Mul64
import Derived.Laws.Bits64b
import Derived.LoopN
import Derived.BigRegion
import Derived.Deep.RegionWith
import Derived.StillTail
import Derived.BigQuiet
import Derived.Below
import Derived.Test.YtmcpljgojdoniaaDoorMulNum
import Derived.Laws.Cover3
import Derived.Great.Walk
namespace Go.Proofs.YtmcpljgojdoniaaDoor
open Go.RowKit Go.Sort

theorem range_keep {W W' : World} {n b o : Nat} {M : List Value} (h : W.rangeAt b o M) (hb : Below n W W') (hl : b < n) : W'.rangeAt b o M := fun j v hv => by
  rw [hb.cell (p := ⟨b, o + j, none⟩) hl]; exact h j v hv
end Go.Proofs.YtmcpljgojdoniaaDoor
