import Derived.Test.YtncpjgpioajbeaaGreatDoorLen
/- The bits of a number that is moved. -/
namespace Go.Proofs.YtncpjgpioajbeaaGreatDoor

theorem pow_pos' (k : Nat) : (0 : Int) < 2 ^ k := Int.pow_pos (by decide)
theorem shlN_Num {n : Int} (hn : Num n) (k : Int) : Num (shlN n k) := by
  unfold shlN
  split
  · exact ⟨by decide, by decide⟩
  · split
    · exact downN_Num hn
    · exact upN_Num n k

/-- The bit i of n times 2^k, modulo 2^256. -/
theorem up_bit {n : Int} (k i : Nat) (hi : i ≤ 255) : n * 2 ^ k % 115792089237316195423570985008687907853269984665640564039457584007913129639936 / 2 ^ i % 2 = if i < k then 0 else n / 2 ^ (i - k) % 2 := by
  have e : (115792089237316195423570985008687907853269984665640564039457584007913129639936 : Int) = 2 ^ i * (2 * 2 ^ (255 - i)) := by
    rw [← Int.pow_succ', ← Int.pow_add, show i + (255 - i + 1) = 256 by omega]; decide
  have hp := pow_pos' i
  have d := Int.emod_add_mul_ediv (n * 2 ^ k) 115792089237316195423570985008687907853269984665640564039457584007913129639936
  generalize n * 2 ^ k % 115792089237316195423570985008687907853269984665640564039457584007913129639936 = r at *
  generalize n * 2 ^ k / 115792089237316195423570985008687907853269984665640564039457584007913129639936 = t at *
  have h1 : n * 2 ^ k / 2 ^ i % 2 = r / 2 ^ i % 2 := by
    rw [← d, e, Int.mul_assoc, Int.add_mul_ediv_left _ _ (by omega), Int.mul_assoc]
    omega
  rw [← h1]
  split
  · rename_i h
    have e2 : n * 2 ^ k = 2 ^ i * (2 * (n * 2 ^ (k - i - 1))) := by
      rw [show (2 : Int) ^ k = 2 ^ i * 2 * 2 ^ (k - i - 1) by rw [← Int.pow_succ, ← Int.pow_add]; congr 1; omega, Int.mul_assoc (2 ^ i), Int.mul_left_comm n (2 ^ i), Int.mul_left_comm n 2]
    rw [e2, Int.mul_ediv_cancel_left _ (by omega)]
    omega
  · rename_i h
    conv => lhs; rw [show i = k + (i - k) by omega, Int.pow_add, Int.mul_comm n, ← Int.ediv_ediv_of_nonneg (Int.le_of_lt (pow_pos' k)), Int.mul_ediv_cancel_left _ (by have := pow_pos' k; omega)]

theorem shl_bit {n k : Int} (hn : Num n) (k0 : -255 ≤ k) (k1 : k ≤ 255) (i : Nat) (hi : i ≤ 255) : bitN n (i - k) = shlN n k / 2 ^ i % 2 := by
  unfold shlN bitN
  rw [if_neg (show ¬ (k ≤ -256 ∨ 256 ≤ k) by omega)]
  by_cases h : k < 0
  · rw [if_pos h]
    unfold downN
    rw [Int.ediv_ediv_of_nonneg (Int.le_of_lt (pow_pos' _)), ← Int.pow_add]
    split
    · rename_i h2
      have h3 : 256 ≤ (-k).toNat + i := by omega
      rw [Int.ediv_eq_zero_of_lt hn.1]
      · rfl
      · have : (2 : Int) ^ 256 ≤ 2 ^ ((-k).toNat + i) := by
          rw [show (-k).toNat + i = 256 + ((-k).toNat + i - 256) by omega, Int.pow_add]
          have := pow_pos' ((-k).toNat + i - 256)
          have := Int.mul_le_mul_of_nonneg_left (show (1 : Int) ≤ 2 ^ ((-k).toNat + i - 256) by omega) (show (0 : Int) ≤ 2 ^ 256 by decide)
          omega
        have e : (2 : Int) ^ 256 = 115792089237316195423570985008687907853269984665640564039457584007913129639936 := by decide
        have := hn.2
        omega
    · rw [show ((i : Int) - k).toNat = (-k).toNat + i by omega]
  · rw [if_neg h]
    unfold upN
    rw [up_bit k.toNat i hi]
    by_cases h2 : i < k.toNat
    · rw [if_pos h2, if_pos (by omega)]
    · rw [if_neg h2, if_neg (by omega), show ((i : Int) - k).toNat = i - k.toNat by omega]

theorem mod_succ (Y : Int) (j : Nat) : Y % 2 ^ (j + 1) = Y % 2 ^ j + Y / 2 ^ j % 2 * 2 ^ j := by
  have p := pow_pos' j
  have d1 := Int.emod_add_mul_ediv Y (2 ^ j)
  have d2 := Int.emod_add_mul_ediv (Y / 2 ^ j) 2
  have m0 := Int.emod_nonneg Y (show (2 : Int) ^ j ≠ 0 by omega)
  have m1 := Int.emod_lt_of_pos Y p
  have hb : 0 ≤ Y / 2 ^ j % 2 ∧ Y / 2 ^ j % 2 ≤ 1 := by omega
  rw [Int.pow_succ]
  refine ((Int.ediv_emod_unique (a := Y) (b := 2 ^ j * 2) (r := Y % 2 ^ j + Y / 2 ^ j % 2 * 2 ^ j) (q := Y / 2 ^ j / 2) (by omega)).2 ⟨?_, ?_, ?_⟩).2
  · generalize Y / 2 ^ j / 2 = c at *
    generalize Y / 2 ^ j % 2 = b at *
    rw [← d2, Int.mul_add] at d1
    rw [Int.mul_comm b, Int.mul_assoc]
    omega
  · have := Int.mul_nonneg hb.1 (Int.le_of_lt p); omega
  · have := Int.mul_le_mul_of_nonneg_right hb.2 (Int.le_of_lt p); omega

theorem mod_all {Y : Int} (h : Num Y) : Y % 2 ^ 256 = Y := Int.emod_eq_of_lt h.1 (by have := h.2; rw [show (2 : Int) ^ 256 = 115792089237316195423570985008687907853269984665640564039457584007913129639936 by decide]; exact this)
theorem mod_Num {Y : Int} (h : Num Y) (j : Nat) : Num (Y % 2 ^ j) ∧ Y % 2 ^ j < 2 ^ j := by
  have p := pow_pos' j
  have m0 := Int.emod_nonneg Y (show (2 : Int) ^ j ≠ 0 by omega)
  have m1 := Int.emod_lt_of_pos Y p
  refine ⟨⟨m0, ?_⟩, m1⟩
  have d := Int.emod_add_mul_ediv Y (2 ^ j)
  have q : 0 ≤ 2 ^ j * (Y / 2 ^ j) := Int.mul_nonneg (by omega) (Int.ediv_nonneg h.1 (by omega))
  have := h.2
  omega

end Go.Proofs.YtncpjgpioajbeaaGreatDoor
