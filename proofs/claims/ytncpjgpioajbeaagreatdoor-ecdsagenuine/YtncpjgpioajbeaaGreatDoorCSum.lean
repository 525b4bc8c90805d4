import Derived.Test.YtncpjgpioajbeaaGreatDoorCSumK
namespace Go.Proofs.YtncpjgpioajbeaaGreatDoor
open Go.RowKit Go.Sort

theorem Bk12.tv {W : World} {b : Nat} (h : Bk12 W b) : TV W b 0 0 0 := by
  obtain ⟨z0, z1, z2, z3⟩ := zero_limbs
  refine ⟨?_, h.2⟩
  unfold Thr
  rw [z0, z1, z2, z3]
  exact h.1

end Go.Proofs.YtncpjgpioajbeaaGreatDoor
