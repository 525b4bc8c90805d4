import Derived.Test.YtjjimkhppoppbaaRingNum
/- Quotients and rests. -/
namespace Go.Proofs.Ytjjimkhppoppbaa

theorem rest_back {n m : Int} (hn : Num n) (hm : Num m) (hz : m ≠ 0) : Num (n / m) ∧ Num (n % m) ∧ hiN (n / m) m = 0 ∧ sumN (loN (n / m) m) (n % m) = n ∧ carN (loN (n / m) m) (n % m) = 0 ∧ cmpN (n % m) m = -1 := by
  obtain ⟨n0, n1⟩ := hn; obtain ⟨m0, m1⟩ := hm
  have e := Int.emod_add_mul_ediv n m
  have r0 := Int.emod_nonneg n hz
  have r1 := Int.emod_lt_of_pos n (show 0 < m by omega)
  have q0 : 0 ≤ n / m := Int.ediv_nonneg n0 m0
  have q1 : n / m ≤ n := Int.ediv_le_self _ n0
  have p0 : 0 ≤ m * (n / m) := Int.mul_nonneg m0 q0
  unfold hiN loN sumN carN cmpN Num
  rw [Int.mul_comm (n / m) m]
  generalize m * (n / m) = p at *
  generalize n / m = q at *
  generalize n % m = r at *
  refine ⟨⟨by omega, by omega⟩, ⟨by omega, by omega⟩, by omega, by omega, by omega, ?_⟩
  rw [if_neg (by omega), if_pos (by omega)]

theorem made_back {n m r : Int} (hn : Num n) (hm : Num m) (r0 : 0 ≤ r) (r1 : r < m) :
    (sumN (loN n m) r + sumN (hiN n m) (carN (loN n m) r) * 115792089237316195423570985008687907853269984665640564039457584007913129639936) % m = r ∧ Word (carN (loN n m) r) := by
  obtain ⟨n0, n1⟩ := hn; obtain ⟨m0, m1⟩ := hm
  have p0 : 0 ≤ n * m := Int.mul_nonneg n0 m0
  have p1 : n * m ≤ 115792089237316195423570985008687907853269984665640564039457584007913129639935 * 115792089237316195423570985008687907853269984665640564039457584007913129639935 := Int.mul_le_mul (by omega) (by omega) m0 (by decide)
  have e : sumN (loN n m) r + sumN (hiN n m) (carN (loN n m) r) * 115792089237316195423570985008687907853269984665640564039457584007913129639936 = r + m * n := by
    rw [Int.mul_comm m n]
    unfold hiN loN sumN carN
    generalize n * m = p at *
    omega
  refine ⟨?_, ?_⟩
  · rw [e, Int.add_mul_emod_self_left, Int.emod_eq_of_lt r0 r1]
  · unfold carN loN Word
    generalize n * m = p at *
    omega

end Go.Proofs.Ytjjimkhppoppbaa
