import Derived.Test.YtncpjgpioajbeaaGreatDoorRingNum
import Derived.Test.YtncpjgpioajbeaaGreatDoorLen
/- Powers, bit by bit of the exponent. -/
namespace Go.Proofs.YtncpjgpioajbeaaGreatDoor

theorem half_bit (m : Int) (j : Nat) : m / 2 ^ j = 2 * (m / 2 ^ (j + 1)) + m / 2 ^ j % 2 := by
  have e : m / 2 ^ (j + 1) = m / 2 ^ j / 2 := by rw [Int.pow_succ, ← Int.ediv_ediv_of_nonneg (Int.le_of_lt (Int.pow_pos (by decide)))]
  rw [e]
  omega

theorem lenN_bound {m : Int} (hm : Num m) : ∃ j : Nat, lenN m = j ∧ j ≤ 256 ∧ m < 2 ^ j ∧ m / 2 ^ j = 0 := by
  obtain ⟨m0, m1⟩ := hm
  by_cases h : m = 0
  · subst h; exact ⟨0, by unfold lenN; simp, by omega, by decide, by decide⟩
  · have hn : m.toNat ≠ 0 := by omega
    have a : Nat.log2 m.toNat < 256 := (Nat.log2_lt hn).2 (by
      have : (2 : Nat) ^ 256 = 115792089237316195423570985008687907853269984665640564039457584007913129639936 := by decide
      omega)
    have b : m.toNat < 2 ^ (Nat.log2 m.toNat + 1) := (Nat.log2_lt hn).1 (Nat.lt_succ_self _)
    have c : m < 2 ^ (Nat.log2 m.toNat + 1) := by
      have : ((m.toNat : Nat) : Int) < ((2 ^ (Nat.log2 m.toNat + 1) : Nat) : Int) := by exact_mod_cast b
      rw [Int.toNat_of_nonneg m0] at this
      simpa using this
    refine ⟨Nat.log2 m.toNat + 1, ?_, by omega, c, Int.ediv_eq_zero_of_lt m0 c⟩
    unfold lenN
    rw [if_neg h]
    rfl

theorem bitN_eq (m : Int) {j : Nat} (h : j < 256) : bitN m j = m / 2 ^ j % 2 := by
  unfold bitN
  rw [if_neg (by omega), Int.toNat_natCast]

end Go.Proofs.YtncpjgpioajbeaaGreatDoor
