import Derived.Test.YtmhcgjkemlcgoaaDoorUpAny
import Derived.Test.YtmhcgjkemlcgoaaDoorShelf
import Derived.Lib.ItoaNum
import Derived.Test.YtmhcgjkemlcgoaaDoorNum
namespace Go.Proofs.YtmhcgjkemlcgoaaDoor
open Go.RowKit

def bitN (n k : Int) : Int := if k < 0 ∨ 255 < k then 0 else n / 2 ^ k.toNat % 2
/-- The bits of a number are those of its limbs. -/
theorem bit_of {x y s : Int} (s0 : 0 ≤ s) (s1 : s ≤ 63) : (x + 18446744073709551616 * y) / 2 ^ s.toNat % 2 = x / 2 ^ s.toNat % 2 := by
  obtain ⟨e, p1, _⟩ := pow_pair s0 s1
  have hR : ∃ r, (2 : Int) ^ (64 - s).toNat = 2 * r := by
    obtain ⟨k, hk⟩ : ∃ k, (64 - s).toNat = k + 1 := ⟨(64 - s).toNat - 1, by omega⟩
    exact ⟨2 ^ k, by rw [hk, Int.pow_succ, Int.mul_comm]⟩
  obtain ⟨r, hr⟩ := hR
  rw [hr] at e
  rw [← e, Int.mul_assoc, Int.add_mul_ediv_left _ _ (by omega), Int.mul_assoc]
  omega

theorem bit_num {x0 x1 x2 x3 k : Int} (h0 : Word x0) (h1 : Word x1) (h2 : Word x2) :
    (k / 64 = 0 → num x0 x1 x2 x3 / 2 ^ k.toNat % 2 = x0 / 2 ^ (k % 64).toNat % 2) ∧ (k / 64 = 1 → num x0 x1 x2 x3 / 2 ^ k.toNat % 2 = x1 / 2 ^ (k % 64).toNat % 2) ∧
    (k / 64 = 2 → num x0 x1 x2 x3 / 2 ^ k.toNat % 2 = x2 / 2 ^ (k % 64).toNat % 2) ∧ (k / 64 = 3 → num x0 x1 x2 x3 / 2 ^ k.toNat % 2 = x3 / 2 ^ (k % 64).toNat % 2) := by
  have s0 : 0 ≤ k % 64 := by omega
  have s1 : k % 64 ≤ 63 := by omega
  refine ⟨fun hq => ?_, fun hq => ?_, fun hq => ?_, fun hq => ?_⟩
  · rw [pow_split 0 s0 (show k = 64 * (0 : Nat) + k % 64 by omega), show (2 : Int) ^ (64 * 0) = 1 by decide, ← Int.ediv_ediv_of_nonneg (by decide),
      show num x0 x1 x2 x3 / 1 = x0 + 18446744073709551616 * (x1 + 18446744073709551616 * x2 + 340282366920938463463374607431768211456 * x3) by unfold num Word at *; omega]
    exact bit_of s0 s1
  · rw [pow_split 1 s0 (show k = 64 * (1 : Nat) + k % 64 by omega), show (2 : Int) ^ (64 * 1) = 18446744073709551616 by decide, ← Int.ediv_ediv_of_nonneg (by decide),
      show num x0 x1 x2 x3 / 18446744073709551616 = x1 + 18446744073709551616 * (x2 + 18446744073709551616 * x3) by unfold num Word at *; omega]
    exact bit_of s0 s1
  · rw [pow_split 2 s0 (show k = 64 * (2 : Nat) + k % 64 by omega), show (2 : Int) ^ (64 * 2) = 340282366920938463463374607431768211456 by decide, ← Int.ediv_ediv_of_nonneg (by decide),
      show num x0 x1 x2 x3 / 340282366920938463463374607431768211456 = x2 + 18446744073709551616 * (x3) by unfold num Word at *; omega]
    exact bit_of s0 s1
  · rw [pow_split 3 s0 (show k = 64 * (3 : Nat) + k % 64 by omega), show (2 : Int) ^ (64 * 3) = 6277101735386680763835789423207666416102355444464034512896 by decide, ← Int.ediv_ediv_of_nonneg (by decide),
      show num x0 x1 x2 x3 / 6277101735386680763835789423207666416102355444464034512896 = x3 + 18446744073709551616 * (0) by unfold num Word at *; omega]
    exact bit_of s0 s1

end Go.Proofs.YtmhcgjkemlcgoaaDoor

/- Powers, bit by bit of the exponent. -/
namespace Go.Proofs.YtmhcgjkemlcgoaaDoor

theorem half_bit (m : Int) (j : Nat) : m / 2 ^ j = 2 * (m / 2 ^ (j + 1)) + m / 2 ^ j % 2 := by
  have e : m / 2 ^ (j + 1) = m / 2 ^ j / 2 := by rw [Int.pow_succ, ← Int.ediv_ediv_of_nonneg (Int.le_of_lt (Int.pow_pos (by decide)))]
  rw [e]
  omega

end Go.Proofs.YtmhcgjkemlcgoaaDoor
