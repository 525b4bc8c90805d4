import Derived.Test.YtncpjgpioajbeaaGreatDoorRowB
import Derived.Test.YtncpjgpioajbeaaGreatDoorShiftNum
/- Bytes put into limbs. -/
namespace Go.Proofs.YtncpjgpioajbeaaGreatDoor

/-- The number of the last i bytes of a list. -/
def sufN (A : List Int) : Nat → Int
  | 0 => 0
  | i + 1 => sufN A i + A.getD (A.length - 1 - i) 0 * 256 ^ i
def Byts (A : List Int) : Prop := ∀ i, 0 ≤ A.getD i 0 ∧ A.getD i 0 < 256

theorem sufN_bound {A : List Int} (h : Byts A) : ∀ i : Nat, 0 ≤ sufN A i ∧ sufN A i < 256 ^ i
  | 0 => by simp [sufN]
  | i + 1 => by
    obtain ⟨a, b⟩ := sufN_bound h i
    obtain ⟨c, d⟩ := h (A.length - 1 - i)
    simp only [sufN, Int.pow_succ]
    have p0 : (0 : Int) < 256 ^ i := Int.pow_pos (by decide)
    have h1 := Int.mul_nonneg c (Int.le_of_lt p0)
    have h2 := Int.mul_le_mul_of_nonneg_right (show A.getD (A.length - 1 - i) 0 ≤ 255 by omega) (Int.le_of_lt p0)
    generalize A.getD (A.length - 1 - i) 0 * 256 ^ i = z at *
    omega

theorem limb_add {X b : Int} {i : Nat} (hi : i < 32) (X0 : 0 ≤ X) (X1 : X < 256 ^ i) (b0 : 0 ≤ b) (b1 : b < 256) :
    0 ≤ [l0 X, l1 X, l2 X, l3 X].getD (i / 8) 0 ∧ [l0 X, l1 X, l2 X, l3 X].getD (i / 8) 0 < 2 ^ (i % 8 * 8) ∧ 0 ≤ b * 2 ^ (i % 8 * 8) ∧ [l0 X, l1 X, l2 X, l3 X].getD (i / 8) 0 + b * 2 ^ (i % 8 * 8) < 18446744073709551616 ∧
    [l0 (X + b * 256 ^ i), l1 (X + b * 256 ^ i), l2 (X + b * 256 ^ i), l3 (X + b * 256 ^ i)] = [l0 X, l1 X, l2 X, l3 X].set (i / 8) ([l0 X, l1 X, l2 X, l3 X].getD (i / 8) 0 + b * 2 ^ (i % 8 * 8)) := by
  have hs : i % 8 * 8 ≤ 56 := by omega
  have pl : (2 : Int) ^ (i % 8 * 8) * 256 ≤ 18446744073709551616 := by
    obtain ⟨T, eT, T0⟩ : ∃ T : Int, 2 ^ (i % 8 * 8) * 256 * T = 18446744073709551616 ∧ 0 < T := ⟨2 ^ (56 - i % 8 * 8), by
      rw [show (256 : Int) = 2 ^ 8 by decide, ← Int.pow_add, ← Int.pow_add, show i % 8 * 8 + 8 + (56 - i % 8 * 8) = 64 by omega]; decide, Int.pow_pos (show (0 : Int) < 2 by decide)⟩
    have p0 : (0 : Int) < 2 ^ (i % 8 * 8) := Int.pow_pos (by decide)
    have := Int.mul_le_mul_of_nonneg_left (show 1 ≤ T by omega) (show (0 : Int) ≤ 2 ^ (i % 8 * 8) * 256 by omega)
    omega
  have p0 : (0 : Int) < 2 ^ (i % 8 * 8) := Int.pow_pos (by decide)
  have e256 : (256 : Int) ^ i = 2 ^ (64 * (i / 8)) * 2 ^ (i % 8 * 8) := by rw [show (256 : Int) = 2 ^ 8 by decide, ← Int.pow_mul, ← Int.pow_add, show 64 * (i / 8) + i % 8 * 8 = 8 * i by omega]
  rw [e256] at X1 ⊢
  clear e256
  generalize (2 : Int) ^ (i % 8 * 8) = P at *
  have z0 := Int.mul_nonneg b0 (Int.le_of_lt p0)
  have z1 := Int.mul_le_mul_of_nonneg_right (show b ≤ 255 by omega) (Int.le_of_lt p0)
  rcases (show i / 8 = 0 ∨ i / 8 = 1 ∨ i / 8 = 2 ∨ i / 8 = 3 by omega) with h | h | h | h
  · rw [h] at X1 ⊢
    rw [show (2 : Int) ^ (64 * 0) = 1 by decide] at X1 ⊢
    rw [show b * (1 * P) = 1 * (b * P) by rw [Int.mul_left_comm]]
    generalize b * P = z at *
    simp only [List.getD_cons_zero, List.set_cons_zero]
    unfold l0 l1 l2 l3
    refine ⟨by omega, by omega, z0, by omega, ?_⟩
    simp only [List.cons.injEq, and_true]
    omega
  · rw [h] at X1 ⊢
    rw [show (2 : Int) ^ (64 * 1) = 18446744073709551616 by decide] at X1 ⊢
    rw [show b * (18446744073709551616 * P) = 18446744073709551616 * (b * P) by rw [Int.mul_left_comm]]
    generalize b * P = z at *
    simp only [List.getD_cons_zero, List.getD_cons_succ, List.set_cons_zero, List.set_cons_succ]
    unfold l0 l1 l2 l3
    refine ⟨by omega, by omega, z0, by omega, ?_⟩
    simp only [List.cons.injEq, and_true]
    omega
  · rw [h] at X1 ⊢
    rw [show (2 : Int) ^ (64 * 2) = 340282366920938463463374607431768211456 by decide] at X1 ⊢
    rw [show b * (340282366920938463463374607431768211456 * P) = 340282366920938463463374607431768211456 * (b * P) by rw [Int.mul_left_comm]]
    generalize b * P = z at *
    simp only [List.getD_cons_zero, List.getD_cons_succ, List.set_cons_zero, List.set_cons_succ]
    unfold l0 l1 l2 l3
    refine ⟨by omega, by omega, z0, by omega, ?_⟩
    simp only [List.cons.injEq, and_true]
    omega
  · rw [h] at X1 ⊢
    rw [show (2 : Int) ^ (64 * 3) = 6277101735386680763835789423207666416102355444464034512896 by decide] at X1 ⊢
    rw [show b * (6277101735386680763835789423207666416102355444464034512896 * P) = 6277101735386680763835789423207666416102355444464034512896 * (b * P) by rw [Int.mul_left_comm]]
    generalize b * P = z at *
    simp only [List.getD_cons_zero, List.getD_cons_succ, List.set_cons_zero, List.set_cons_succ]
    unfold l0 l1 l2 l3
    refine ⟨by omega, by omega, z0, by omega, ?_⟩
    simp only [List.cons.injEq, and_true]
    omega

end Go.Proofs.YtncpjgpioajbeaaGreatDoor
