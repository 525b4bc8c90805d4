import Derived.Test.YtncpjgpioajbeaaGreatDoorEText
import Derived.Test.YtncpjgpioajbeaaGreatDoorCJac
namespace Go.Proofs.YtncpjgpioajbeaaGreatDoor
open Go.RowKit Go.Sort

/-- s times the nonce. -/
theorem sw_back {t non : Int} (hn : 0 ≤ non) (hz : modN nN non ≠ 0) (ht : modN nN t = t) : modN nN (modN nN (t * invN nN non) * non) = t := by
  have e := EC.inv_n hn hz
  unfold modN at *
  have h1 : (t * invN nN non % nN * non) % nN = (t * (non * invN nN non % nN)) % nN := by
    rw [Int.mul_emod, Int.emod_emod_of_dvd _ (Int.dvd_refl _), ← Int.mul_emod, Int.mul_emod t (non * invN nN non % nN), Int.emod_emod_of_dvd _ (Int.dvd_refl _), ← Int.mul_emod]
    congr 1
    rw [Int.mul_assoc, Int.mul_comm (invN nN non) non]
  rw [h1, e, Int.mul_one, ht]
theorem half_n : shrN nN 1 = 57896044618658097711785492504343953926418782139537452191302581570759080747168 := by decide +kernel
theorem n_lit : nN = 115792089237316195423570985008687907852837564279074904382605163141518161494337 := rfl
theorem mod_small {x : Int} : 0 ≤ modN nN x ∧ modN nN x < nN := modN_lt fit_n x
theorem neg_small {s : Int} (h0 : 0 < s) (h1 : s < nN) : modN nN (0 - s) = nN - s := by
  unfold modN
  have : (0 - s) % nN = (0 - s + nN) % nN := by rw [Int.add_emod_right]
  rw [this, Int.emod_eq_of_lt (by omega) (by omega)]
  omega
theorem fit_true {x : Int} (h0 : x ≠ 0) (h1 : x < nN) : fitN x = true := by unfold fitN; simp [h0, h1]
end Go.Proofs.YtncpjgpioajbeaaGreatDoor
