import Derived.Test.YtncpjgpioajbeaaGreatDoorSFolded
import Derived.Test.YtncpjgpioajbeaaGreatDoorSEqH
namespace Go.Proofs.YtncpjgpioajbeaaGreatDoor.S
open Go.RowKit Go.Sort

theorem one_part' {W : World} {p : Part} {v : Value} (t : TypeId) (e : v = p.val) (h : p.ok W) : Prts (W.alloc (.cells #[v] t)) W.heap.size 0 [p] := by
  subst e
  intro i hi
  have hi' : i = 0 := by simpa using hi
  subst hi'
  rw [Nat.zero_add, World.cell?_alloc_mark]
  exact ⟨rfl, h.1, h.2.1, h.2.2.keep ((Below.refl _ _).alloc (Nat.le_refl _) _)⟩

end Go.Proofs.YtncpjgpioajbeaaGreatDoor.S
