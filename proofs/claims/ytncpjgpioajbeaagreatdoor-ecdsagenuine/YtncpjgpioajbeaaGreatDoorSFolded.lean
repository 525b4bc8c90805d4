import Derived.Test.YtncpjgpioajbeaaGreatDoorSCopied
import Derived.Test.YtncpjgpioajbeaaGreatDoorSSums
namespace Go.Proofs.YtncpjgpioajbeaaGreatDoor.S
open Go.RowKit Go.Sort

theorem two_parts {W : World} {p q : Part} {vp vq : Value} (t : TypeId) (ep : vp = p.val) (eq : vq = q.val) (hp : p.ok W) (hq : q.ok W) : Prts (W.alloc (.cells #[vp, vq] t)) W.heap.size 0 [p, q] := by
  subst ep eq
  have B : Below W.heap.size W (W.alloc (.cells #[p.val, q.val] t)) := (Below.refl _ _).alloc (Nat.le_refl _) _
  intro i hi
  have hi' : i < 2 := hi
  rw [Nat.zero_add, World.cell?_alloc_mark]
  obtain rfl | rfl : i = 0 ∨ i = 1 := by omega
  · exact ⟨rfl, hp.1, hp.2.1, hp.2.2.keep B⟩
  · exact ⟨rfl, hq.1, hq.2.1, hq.2.2.keep B⟩
theorem cat_two (p q : Part) : catX [p, q] = p.X ++ q.X := by simp [catX]

end Go.Proofs.YtncpjgpioajbeaaGreatDoor.S
