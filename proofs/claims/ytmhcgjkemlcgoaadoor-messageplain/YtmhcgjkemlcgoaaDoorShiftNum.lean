import Derived.Test.YtmhcgjkemlcgoaaDoorNum
import Derived.WalkKit
/- Shifts of a number of four limbs. -/
namespace Go.Proofs.YtmhcgjkemlcgoaaDoor
open Go.RowKit

/-- 2^s and 2^(64 - s). -/
theorem pow_pair {s : Int} (s0 : 0 ≤ s) (s1 : s ≤ 63) : (2 : Int) ^ s.toNat * 2 ^ (64 - s).toNat = 18446744073709551616 ∧ 1 ≤ (2 : Int) ^ s.toNat ∧ 2 ≤ (2 : Int) ^ (64 - s).toNat := by
  refine ⟨?_, ?_, ?_⟩
  · rw [← Int.pow_add, show s.toNat + (64 - s).toNat = 64 by omega]; decide
  · exact Int.pow_pos (by decide)
  · obtain ⟨k, hk⟩ : ∃ k, (64 - s).toNat = k + 1 := ⟨(64 - s).toNat - 1, by omega⟩
    rw [hk, Int.pow_succ]
    have : (0 : Int) < 2 ^ k := Int.pow_pos (by decide)
    omega

/-- An 'or' of bits that do not meet is a sum. -/
theorem or_sum (i k b : Nat) (hb : b < 2 ^ i) (ha : 2 ^ i * k < 18446744073709551616) (hb' : b < 18446744073709551616) :
    bits .or .u64 ((2 ^ i * k : Nat) : Int) (b : Int) = ((2 ^ i * k + b : Nat) : Int) := by
  rw [bits_or_u64_nat _ _ ha hb', ← Nat.two_pow_add_eq_or_of_lt hb k]

end Go.Proofs.YtmhcgjkemlcgoaaDoor
