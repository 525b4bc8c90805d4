import Derived.Test.YtdjjphcfobbipaaLen
import Derived.Test.YtdjjphcfobbipaaDigit
import Derived.Test.YtdjjphcfobbipaaCmp
import Derived.Test.YtdjjphcfobbipaaHold
import Derived.Deep.RegionWith
import Derived.Test.YtdjjphcfobbipaaMulNum
namespace Go.Proofs.Ytdjjphcfobbipaa
open Go.RowKit

theorem horner {t V D Q R U q R' : Int} (h : V = D * Q + R) (u : t + 18446744073709551616 * R = U) (e : U = D * q + R') : t + 18446744073709551616 * V = D * (q + 18446744073709551616 * Q) + R' := by
  rw [h, Int.mul_add, Int.mul_add D, Int.mul_left_comm D _ Q]
  generalize D * Q = a at *
  generalize D * q = b at *
  omega

theorem fin_div {X m P D Q R : Int} (hP : 0 < P) (hm : 0 < m) (e : X * P = D * Q + R) (eD : D = m * P) (r0 : 0 ≤ R) (r1 : R < D) : X / m = Q ∧ X % m = R / P := by
  have hR : R = (X - m * Q) * P := by
    rw [Int.sub_mul, e, eD, Int.mul_right_comm]
    generalize m * Q * P = a
    omega
  have h0 : 0 ≤ X - m * Q := by
    rcases Int.lt_or_le (X - m * Q) 0 with h | h
    · have := Int.mul_neg_of_neg_of_pos h hP
      omega
    · exact h
  have h1 : X - m * Q < m := by
    rw [eD, hR] at r1
    exact Int.lt_of_mul_lt_mul_right r1 (by omega)
  have d := (Int.ediv_emod_unique (a := X) (b := m) (r := X - m * Q) (q := Q) hm).2 ⟨by omega, h0, h1⟩
  refine ⟨d.1, d.2.trans ?_⟩
  rw [hR, Int.mul_ediv_cancel _ (by omega)]

theorem top_lt {V P lo hi c d : Int} (_hP : 0 < P) (lo0 : 0 ≤ lo) (e : V = lo + c * hi) (hc : 0 < c) (hV : V < c * (d * P)) : hi < d * P := by
  have : c * hi < c * (d * P) := by omega
  exact Int.lt_of_mul_lt_mul_left this (by omega)

/-- 2^b and 2^(63 - b). -/
theorem pow_63 {b : Nat} (h : b ≤ 63) : (2 : Int) ^ b * 2 ^ (63 - (b : Int)).toNat = 9223372036854775808 ∧ (2 : Int) ^ (b + 1) * 2 ^ (63 - (b : Int)).toNat = 18446744073709551616 := by
  constructor
  · rw [← Int.pow_add, show b + (63 - (b : Int)).toNat = 63 by omega]; decide
  · rw [← Int.pow_add, show b + 1 + (63 - (b : Int)).toNat = 64 by omega]; decide

end Go.Proofs.Ytdjjphcfobbipaa

namespace Go.Proofs.Ytdjjphcfobbipaa
open Go.RowKit

theorem eq_same (a0 a1 a2 a3 : Int) (w : World) : (Op.equalIn 10000 25 (.agg #[.int .u64 a0, .int .u64 a1, .int .u64 a2, .int .u64 a3]) (.agg #[.int .u64 a0, .int .u64 a1, .int .u64 a2, .int .u64 a3])).run Try.prog w = .ok true w := by
  rw [eq_any]; simp

end Go.Proofs.Ytdjjphcfobbipaa
