import Derived.Test.YtaefmdofchjofaaNum
import Derived.WalkKit
/- Shifts of a number of four limbs. -/
namespace Go.Proofs.Ytaefmdofchjofaa
open Go.RowKit

/-- An 'or' of bits that do not meet is a sum. -/
theorem or_sum (i k b : Nat) (hb : b < 2 ^ i) (ha : 2 ^ i * k < 18446744073709551616) (hb' : b < 18446744073709551616) :
    bits .or .u64 ((2 ^ i * k : Nat) : Int) (b : Int) = ((2 ^ i * k + b : Nat) : Int) := by
  rw [bits_or_u64_nat _ _ ha hb', ← Nat.two_pow_add_eq_or_of_lt hb k]

theorem or_comm (a b : Nat) (ha : a < 18446744073709551616) (hb : b < 18446744073709551616) : bits .or .u64 (a : Int) (b : Int) = bits .or .u64 (b : Int) (a : Int) := by
  rw [bits_or_u64_nat _ _ ha hb, bits_or_u64_nat _ _ hb ha, Nat.or_comm]

end Go.Proofs.Ytaefmdofchjofaa
