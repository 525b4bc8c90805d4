import Derived.Test.YtlpmphldmfefkaaDoorShl
import Derived.Test.YtlpmphldmfefkaaDoorShelf
import Derived.Lib.ItoaNum
import Derived.Test.YtlpmphldmfefkaaDoorMulNum
import Derived.Test.YtlpmphldmfefkaaDoorTail
import Derived.Deep.RegionHeld
import Derived.Test.YtlpmphldmfefkaaDoorLeaf
import Derived.LoopN
import Derived.BigRegion
import Derived.WalkKit
import Derived.Test.YtlpmphldmfefkaaDoorAdd
import Derived.Deep.RegionWith
import Derived.Test.YtlpmphldmfefkaaDoorQTail
import Derived.Test.YtlpmphldmfefkaaDoorMul2
import Derived.Test.YtlpmphldmfefkaaDoorHold
import Derived.Deep.RegionHeld3
namespace Go.Proofs.YtlpmphldmfefkaaDoor
open Go.RowKit Go.Sort

theorem cell_alloc {w : World} {o : Obj} {p : Addr} {v : Value} (h : w.cell? p = some v) : (w.alloc o).cell? p = some v := cell_keep ((Below.refl _ _).alloc (Nat.le_refl _) o) h
theorem cell_set {w : World} {b i b' i' : Nat} {u v : Value} (h : w.cell? ⟨b, i, none⟩ = some v) (ne : b' ≠ b) : (w.setCell ⟨b', i', none⟩ u).cell? ⟨b, i, none⟩ = some v := by
  rw [World.cell?_setCell_far _ _ _ _ ne]; exact h

end Go.Proofs.YtlpmphldmfefkaaDoor
