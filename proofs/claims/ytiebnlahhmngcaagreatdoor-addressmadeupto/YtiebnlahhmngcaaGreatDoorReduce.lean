import Derived.Test.YtiebnlahhmngcaaGreatDoorLen
import Derived.Test.YtiebnlahhmngcaaGreatDoorMulNum
import Derived.Test.YtiebnlahhmngcaaGreatDoorTail
import Derived.Deep.RegionHeld
import Derived.Test.YtiebnlahhmngcaaGreatDoorLeaf
import Derived.LoopN
import Derived.BigRegion
import Derived.Test.YtiebnlahhmngcaaGreatDoorShelf
import Derived.Lib.ItoaNum
import Derived.Test.YtiebnlahhmngcaaGreatDoorShiftNum
import Derived.Test.YtiebnlahhmngcaaGreatDoorAdd
import Derived.Deep.RegionWith
import Derived.Test.YtiebnlahhmngcaaGreatDoorQTail
import Derived.Test.YtiebnlahhmngcaaGreatDoorMul2
import Derived.Test.YtiebnlahhmngcaaGreatDoorHold
import Derived.Deep.RegionHeld3
namespace Go.Proofs.YtiebnlahhmngcaaGreatDoor
open Go.RowKit Go.Sort

theorem cell_alloc {w : World} {o : Obj} {p : Addr} {v : Value} (h : w.cell? p = some v) : (w.alloc o).cell? p = some v := cell_keep ((Below.refl _ _).alloc (Nat.le_refl _) o) h
theorem cell_set {w : World} {b i b' i' : Nat} {u v : Value} (h : w.cell? ⟨b, i, none⟩ = some v) (ne : b' ≠ b) : (w.setCell ⟨b', i', none⟩ u).cell? ⟨b, i, none⟩ = some v := by
  rw [World.cell?_setCell_far _ _ _ _ ne]; exact h

end Go.Proofs.YtiebnlahhmngcaaGreatDoor
