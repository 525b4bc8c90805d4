import Derived.Test.YtncpjgpioajbeaaGreatDoorEText
import Derived.Test.YtncpjgpioajbeaaGreatDoorCJac
namespace Go.Proofs.YtncpjgpioajbeaaGreatDoor
open Go.RowKit Go.Sort

theorem odd_is (Y : Int) (h : Num Y) : oddB Y = ((l0 Y).tmod 2 == 1) := by
  unfold oddB bitN l0
  rw [if_neg (by decide)]
  have h0 := h.1
  have e : (Y % 18446744073709551616).tmod 2 = Y % 2 := by
    rw [Int.tmod_eq_emod_of_nonneg (by omega)]; omega
  rw [e]
  have e2 : Y / 2 ^ (0 : Int).toNat % 2 = Y % 2 := by simp
  rw [e2]
  by_cases h1 : Y % 2 = 1 <;> simp [h1]
theorem mod_small {x : Int} : 0 ≤ modN nN x ∧ modN nN x < nN := modN_lt fit_n x
theorem neg_small {s : Int} (h0 : 0 < s) (h1 : s < nN) : modN nN (0 - s) = nN - s := by
  unfold modN
  have : (0 - s) % nN = (0 - s + nN) % nN := by rw [Int.add_emod_right]
  rw [this, Int.emod_eq_of_lt (by omega) (by omega)]
  omega
end Go.Proofs.YtncpjgpioajbeaaGreatDoor
