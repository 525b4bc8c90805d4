import Derived.Test.YtnokgnhcnhfkpaaDoorDivAny
import Derived.Test.YtnokgnhcnhfkpaaDoorQTail
import Derived.Test.YtnokgnhcnhfkpaaDoorCmp
import Derived.Test.YtnokgnhcnhfkpaaDoorTail
import Derived.Test.YtnokgnhcnhfkpaaDoorMulNum
import Derived.Test.YtnokgnhcnhfkpaaDoorHold
import Derived.Test.YtnokgnhcnhfkpaaDoorRow
import Derived.Deep.RegionHeld3
namespace Go.Proofs.YtnokgnhcnhfkpaaDoor
open Go.RowKit Go.Sort

theorem cell_alloc {w : World} {o : Obj} {p : Addr} {v : Value} (h : w.cell? p = some v) : (w.alloc o).cell? p = some v := cell_keep ((Below.refl _ _).alloc (Nat.le_refl _) o) h
end Go.Proofs.YtnokgnhcnhfkpaaDoor
