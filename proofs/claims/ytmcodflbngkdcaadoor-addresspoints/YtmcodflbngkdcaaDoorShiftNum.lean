import Derived.Test.YtmcodflbngkdcaaDoorMulNum
import Derived.WalkKit
/- Shifts of a number of four limbs. -/
namespace Go.Proofs.YtmcodflbngkdcaaDoor
open Go.RowKit

/-- 2^s and 2^(64 - s). -/
theorem pow_pair {s : Int} (s0 : 0 ≤ s) (s1 : s ≤ 63) : (2 : Int) ^ s.toNat * 2 ^ (64 - s).toNat = 18446744073709551616 ∧ 1 ≤ (2 : Int) ^ s.toNat ∧ 2 ≤ (2 : Int) ^ (64 - s).toNat := by
  refine ⟨?_, ?_, ?_⟩
  · rw [← Int.pow_add, show s.toNat + (64 - s).toNat = 64 by omega]; decide
  · exact Int.pow_pos (by decide)
  · obtain ⟨k, hk⟩ : ∃ k, (64 - s).toNat = k + 1 := ⟨(64 - s).toNat - 1, by omega⟩
    rw [hk, Int.pow_succ]
    have : (0 : Int) < 2 ^ k := Int.pow_pos (by decide)
    omega

/-- An 'or' of bits that do not meet is a sum. -/
theorem or_sum (i k b : Nat) (hb : b < 2 ^ i) (ha : 2 ^ i * k < 18446744073709551616) (hb' : b < 18446744073709551616) :
    bits .or .u64 ((2 ^ i * k : Nat) : Int) (b : Int) = ((2 ^ i * k + b : Nat) : Int) := by
  rw [bits_or_u64_nat _ _ ha hb', ← Nat.two_pow_add_eq_or_of_lt hb k]

/-- What is moved up: the low part, below 2^64 - 2^s, and the high part, below 2^s. -/
theorem up_limb {x s : Int} (hx : Word x) (s0 : 0 ≤ s) (s1 : s ≤ 63) :
    ∃ k, IntKind.u64.wrap (x * 2 ^ s.toNat) = 2 ^ s.toNat * k ∧ 0 ≤ k ∧ 2 ^ s.toNat * k + 2 ^ s.toNat ≤ 18446744073709551616 ∧
      x * 2 ^ s.toNat = 2 ^ s.toNat * k + 18446744073709551616 * (x / 2 ^ (64 - s).toNat) ∧ 0 ≤ x / 2 ^ (64 - s).toNat ∧ x / 2 ^ (64 - s).toNat < 2 ^ s.toNat := by
  obtain ⟨e, p1, r1⟩ := pow_pair s0 s1
  obtain ⟨x0, x1⟩ := hx
  rw [IntKind.wrap_u64]
  generalize (2 : Int) ^ s.toNat = P at *
  generalize (2 : Int) ^ (64 - s).toNat = R at *
  have hR : R ≠ 0 := by omega
  have d := Int.emod_add_mul_ediv x R
  have m0 := Int.emod_nonneg x hR
  have m1 := Int.emod_lt_of_pos x (show 0 < R by omega)
  have q0 : 0 ≤ x / R := Int.ediv_nonneg x0 (by omega)
  have q1 : x / R < P := Int.ediv_lt_of_lt_mul (by omega) (by rw [e]; exact x1)
  generalize x / R = h at *
  generalize x % R = k at *
  have hk : P * k + P ≤ 18446744073709551616 := by
    rw [← e]
    have : P * (k + 1) ≤ P * R := Int.mul_le_mul_of_nonneg_left (by omega) (by omega)
    rw [Int.mul_add, Int.mul_one] at this
    exact this
  have hx : x * P = P * k + 18446744073709551616 * h := by
    rw [← d, Int.add_mul, Int.mul_comm k P, ← e, Int.mul_comm (R * h) P, Int.mul_assoc]
  have hk0 : 0 ≤ P * k := Int.mul_nonneg (by omega) m0
  refine ⟨k, ?_, m0, hk, hx, q0, q1⟩
  rw [hx]
  generalize P * k = t at *
  omega

/-- The limb of what is moved up: its own low part and its neighbour's high part. -/
theorem up_or {x y s : Int} (hx : Word x) (hy : Word y) (s0 : 0 ≤ s) (s1 : s ≤ 63) :
    bits .or .u64 (IntKind.u64.wrap (x * 2 ^ s.toNat)) (y / 2 ^ (64 - s).toNat) = IntKind.u64.wrap (x * 2 ^ s.toNat) + y / 2 ^ (64 - s).toNat := by
  obtain ⟨k, e, k0, k1, _, _, _⟩ := up_limb hx s0 s1
  obtain ⟨_, _, _, _, _, h0, h1⟩ := up_limb hy s0 s1
  rw [e]
  generalize y / 2 ^ (64 - s).toNat = h at *
  obtain ⟨k, rfl⟩ := Int.eq_ofNat_of_zero_le k0
  obtain ⟨h, rfl⟩ := Int.eq_ofNat_of_zero_le h0
  have c : ((2 : Int) ^ s.toNat) = ((2 ^ s.toNat : Nat) : Int) := by simp
  rw [c] at k1 h1 ⊢
  rw [← Int.natCast_mul] at k1 ⊢
  rw [or_sum s.toNat k h (by omega) (by omega) (by omega), Int.natCast_add]

end Go.Proofs.YtmcodflbngkdcaaDoor
