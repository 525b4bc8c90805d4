import Derived.Test.YtmhcgjkemlcgoaaDoorLen
import Derived.Test.YtmhcgjkemlcgoaaDoorUpAny
import Derived.Test.YtmhcgjkemlcgoaaDoorRefWith
/- Division bit by bit, in numbers. -/
namespace Go.Proofs.YtmhcgjkemlcgoaaDoor

/-- Behind bit j: the rest, and the quotient's bits in their places. -/
def LongInv (X m : Int) (j : Nat) (Q1 Q0 R : Int) : Prop := Num Q1 ∧ Num Q0 ∧ R = X / 2 ^ j % m ∧ Q1 * 115792089237316195423570985008687907853269984665640564039457584007913129639936 + Q0 = X / 2 ^ j / m * 2 ^ j

theorem long_start {X m : Int} (X0 : 0 ≤ X) (X1 : X < 115792089237316195423570985008687907853269984665640564039457584007913129639936 * 115792089237316195423570985008687907853269984665640564039457584007913129639936) : LongInv X m 512 0 0 0 := by
  have e : X / 2 ^ 512 = 0 := Int.ediv_eq_zero_of_lt X0 (by rw [show (512 : Nat) = 256 + 256 from rfl, Int.pow_add, show (2 : Int) ^ 256 = 115792089237316195423570985008687907853269984665640564039457584007913129639936 by decide]; exact X1)
  refine ⟨⟨by decide, by decide⟩, ⟨by decide, by decide⟩, ?_, ?_⟩
  · rw [e, Int.zero_emod]
  · rw [e, Int.zero_ediv, Int.zero_mul, Int.zero_mul, Int.add_zero]

theorem pow_256 {i : Nat} (h : 255 < i) : (2 : Int) ^ i = 115792089237316195423570985008687907853269984665640564039457584007913129639936 * 2 ^ (i - 256) := by
  rw [show (115792089237316195423570985008687907853269984665640564039457584007913129639936 : Int) = 2 ^ 256 by decide, ← Int.pow_add, show 256 + (i - 256) = i by omega]

theorem long_next {X m : Int} {i : Nat} {Q1 Q0 R b : Int} (hm : 0 < m) (X0 : 0 ≤ X) (X1 : X < 115792089237316195423570985008687907853269984665640564039457584007913129639936 * 115792089237316195423570985008687907853269984665640564039457584007913129639936) (h : LongInv X m (i + 1) Q1 Q0 R) (hb : b = X / 2 ^ i % 2) :
    0 ≤ R ∧ R < m ∧ 0 ≤ b ∧ b ≤ 1 ∧ (2 * R + b < m → LongInv X m i Q1 Q0 (2 * R + b)) ∧
    (m ≤ 2 * R + b → (255 < i → Q1 % (2 * 2 ^ (i - 256)) = 0 ∧ LongInv X m i (Q1 + 2 ^ (i - 256)) Q0 (2 * R + b - m)) ∧ (i ≤ 255 → Q0 % (2 * 2 ^ i) = 0 ∧ LongInv X m i Q1 (Q0 + 2 ^ i) (2 * R + b - m))) := by
  obtain ⟨n1, n0, hR, hQ⟩ := h
  have hd := half_bit X i
  rw [← hb] at hd
  have b0 : 0 ≤ b := by omega
  have b1 : b ≤ 1 := by omega
  have p0 : (0 : Int) < 2 ^ i := Int.pow_pos (by decide)
  have e2 : (2 : Int) ^ (i + 1) = 2 * 2 ^ i := by rw [Int.pow_succ, Int.mul_comm]
  have r0 : 0 ≤ R := by rw [hR]; exact Int.emod_nonneg _ (by omega)
  have r1 : R < m := by rw [hR]; exact Int.emod_lt_of_pos _ hm
  have eA := Int.emod_add_mul_ediv (X / 2 ^ (i + 1)) m
  rw [← hR] at eA
  generalize hA : X / 2 ^ (i + 1) = A at *
  generalize hD : A / m = D at *
  have et : X / 2 ^ i = (2 * R + b) + m * (2 * D) := by
    rw [hd, ← eA, Int.mul_add, Int.mul_left_comm 2 m D]; omega
  have eq : X / 2 ^ i / m = (2 * R + b) / m + 2 * D := by rw [et, Int.add_mul_ediv_left _ _ (by omega)]
  have er : X / 2 ^ i % m = (2 * R + b) % m := by rw [et, Int.add_mul_emod_self_left]
  have tot : X / 2 ^ i / m * 2 ^ i ≤ X := by
    have h1 : X / 2 ^ i / m ≤ X / 2 ^ i := Int.ediv_le_self _ (Int.ediv_nonneg X0 (by omega))
    have h2 := Int.mul_le_mul_of_nonneg_right h1 (show (0 : Int) ≤ 2 ^ i by omega)
    have h3 := Int.ediv_mul_le X (show (2 : Int) ^ i ≠ 0 by omega)
    omega
  have eD : D * 2 ^ (i + 1) = 2 * D * 2 ^ i := by rw [e2, ← Int.mul_assoc, Int.mul_comm D 2]
  refine ⟨r0, r1, b0, b1, fun lt => ?_, fun ge => ?_⟩
  · have z : (2 * R + b) / m = 0 := Int.ediv_eq_zero_of_lt (by omega) lt
    refine ⟨n1, n0, ?_, ?_⟩
    · rw [er, Int.emod_eq_of_lt (by omega) lt]
    · rw [hQ, eD, eq, z, Int.zero_add]
  · have o : (2 * R + b) / m = 1 := by
      refine Int.le_antisymm ?_ ?_
      · exact Int.le_of_lt_add_one ((Int.ediv_lt_iff_lt_mul hm).2 (by omega))
      · exact (Int.le_ediv_iff_mul_le hm).2 (by omega)
    have er' : 2 * R + b - m = X / 2 ^ i % m := by
      rw [er]
      have := Int.emod_add_mul_ediv (2 * R + b) m
      rw [o, Int.mul_one] at this
      omega
    have q2 : X / 2 ^ i / m * 2 ^ i = D * 2 ^ (i + 1) + 2 ^ i := by rw [eq, o, eD, Int.add_mul, Int.one_mul, Int.add_comm]
    refine ⟨fun hi => ?_, fun hi => ?_⟩
    · have e3 := pow_256 hi
      have e4 : D * 2 ^ (i + 1) = 115792089237316195423570985008687907853269984665640564039457584007913129639936 * (2 * (D * 2 ^ (i - 256))) := by
        rw [e2, e3]; rw [Int.mul_left_comm D, Int.mul_left_comm D, Int.mul_left_comm 2]
      have e5 : Q1 = D * (2 * 2 ^ (i - 256)) := by
        rw [Int.mul_left_comm D]
        obtain ⟨_, _⟩ := n0
        rw [e4] at hQ
        omega
      refine ⟨by rw [e5, Int.mul_emod_left], ⟨?_, n0, er', ?_⟩⟩
      · have p1 : (0 : Int) < 2 ^ (i - 256) := Int.pow_pos (by decide)
        obtain ⟨_, _⟩ := n1; obtain ⟨_, _⟩ := n0
        rw [q2, e3, ← hQ] at tot
        exact ⟨by omega, by omega⟩
      · rw [q2, ← hQ, e3, Int.add_mul, Int.mul_comm (2 ^ (i - 256)) _]; omega
    · obtain ⟨G, eG⟩ : ∃ G : Int, 2 * 2 ^ i * G = 115792089237316195423570985008687907853269984665640564039457584007913129639936 := ⟨2 ^ (255 - i), by rw [← e2, ← Int.pow_add, show i + 1 + (255 - i) = 256 by omega]; decide⟩
      have e5 : Q0 = 2 * 2 ^ i * (D - G * Q1) := by
        rw [Int.mul_sub, ← Int.mul_assoc, eG]
        rw [e2, Int.mul_comm D] at hQ
        rw [← hQ]
        omega
      refine ⟨by rw [e5, Int.mul_emod_right], ⟨n1, ⟨by have := n0.1; omega, ?_⟩, er', ?_⟩⟩
      · exact room_over e5 eG n0.2 p0
      · rw [q2, ← hQ]; omega

/-- The bits of a number of two halves. -/
theorem two_bits {h l : Int} (hl : Num l) {i : Nat} : (255 < i → (l + h * 115792089237316195423570985008687907853269984665640564039457584007913129639936) / 2 ^ i % 2 = h / 2 ^ (i - 256) % 2) ∧ (i ≤ 255 → (l + h * 115792089237316195423570985008687907853269984665640564039457584007913129639936) / 2 ^ i % 2 = l / 2 ^ i % 2) := by
  refine ⟨fun hi => ?_, fun hi => ?_⟩
  · rw [pow_256 hi, ← Int.ediv_ediv_of_nonneg (by decide), Int.add_mul_ediv_right _ _ (by decide), Int.ediv_eq_zero_of_lt hl.1 hl.2, Int.zero_add]
  · obtain ⟨G, eG⟩ : ∃ G : Int, 2 ^ i * (2 * G) = 115792089237316195423570985008687907853269984665640564039457584007913129639936 := ⟨2 ^ (255 - i), by
      rw [Int.mul_left_comm, ← Int.pow_add, show i + (255 - i) = 255 by omega]; decide⟩
    have p0 : (0 : Int) < 2 ^ i := Int.pow_pos (by decide)
    rw [← eG, Int.mul_left_comm h, Int.add_mul_ediv_left _ _ (by omega), Int.mul_left_comm h 2 G, Int.add_mul_emod_self_left]

end Go.Proofs.YtmhcgjkemlcgoaaDoor
