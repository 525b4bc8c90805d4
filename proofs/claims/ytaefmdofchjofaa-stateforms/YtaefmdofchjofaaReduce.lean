import Derived.Test.YtaefmdofchjofaaLen
import Derived.Deep.RegionHeld
import Derived.Test.YtaefmdofchjofaaRows
import Derived.Test.YtaefmdofchjofaaNum
import Derived.WalkKit
import Derived.WalkSpells
import Derived.WalkLawsBesides
import Derived.Laws.Externs
import Derived.Shelf.Spec.BitsCarry
import Derived.Lib.Mul64
import Derived.Laws.Bits64b
import Derived.LoopN
import Derived.BigRegion
import Derived.Test.YtaefmdofchjofaaShelf
import Derived.Lib.ItoaNum
import Derived.Test.YtaefmdofchjofaaShiftNum
import Derived.Deep.RegionWith
import Derived.Test.YtaefmdofchjofaaQTail
import Derived.Test.YtaefmdofchjofaaCmp
import Derived.StillTail
import Derived.BigQuiet
import Derived.Below
import Derived.Test.YtaefmdofchjofaaHold
import Derived.Deep.RegionHeld3
namespace Go.Proofs.Ytaefmdofchjofaa
open Go.RowKit Go.Sort

theorem cell_alloc {w : World} {o : Obj} {p : Addr} {v : Value} (h : w.cell? p = some v) : (w.alloc o).cell? p = some v := cell_keep ((Below.refl _ _).alloc (Nat.le_refl _) o) h
end Go.Proofs.Ytaefmdofchjofaa
