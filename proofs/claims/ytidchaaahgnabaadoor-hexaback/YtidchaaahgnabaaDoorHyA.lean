import Derived.Test.YtidchaaahgnabaaDoorHxQb
import Derived.Test.YtidchaaahgnabaaDoorHxD
/- Layer 8: the digits of a text as a number, there and back. -/
namespace Go.Proofs.YtidchaaahgnabaaDoor
open Go.RowKit Go.Sort
/-- The number of the first i digits. -/
def dN (t : ByteArray) : Nat → Int
  | 0 => 0
  | i + 1 => 16 * dN t i + dv (bt t i)
theorem dN_low {t : ByteArray} (h : dgs t) : ∀ i, i ≤ t.size → 0 ≤ dN t i ∧ dN t i < 16 ^ i
  | 0, _ => ⟨Int.le_refl _, by rw [dN]; decide⟩
  | i + 1, hi => by
    obtain ⟨a, b⟩ := dN_low h i (by omega)
    have c := h i (by omega)
    have d := dv_low (bt t i)
    rw [dN, Int.pow_succ]
    generalize (16 : Int) ^ i = P at *
    omega
theorem or_add {x d : Int} {r : Nat} (hr : r < 16) (x0 : 0 ≤ x) (x1 : x < 18446744073709551616) (d0 : 0 ≤ d) (d1 : d ≤ 15) (hx : x % 2 ^ (4 * r + 4) = 0) : bits .or .u64 x (d * 2 ^ (4 * r)) = x + d * 2 ^ (4 * r) := by
  obtain ⟨n, rfl⟩ := Int.eq_ofNat_of_zero_le x0
  obtain ⟨e, rfl⟩ := Int.eq_ofNat_of_zero_le d0
  have hp : ((2 : Int) ^ (4 * r)) = ((2 ^ (4 * r) : Nat) : Int) := by push_cast; rfl
  have hq : ((2 : Int) ^ (4 * r + 4)) = ((2 ^ (4 * r + 4) : Nat) : Int) := by push_cast; rfl
  rw [hq] at hx
  have hx' : n % 2 ^ (4 * r + 4) = 0 := by exact_mod_cast hx
  have e16 : e < 16 := by omega
  have lt : e * 2 ^ (4 * r) < 2 ^ (4 * r + 4) := by
    rw [Nat.pow_add, Nat.mul_comm (2 ^ (4 * r))]
    exact Nat.mul_lt_mul_of_pos_right (by omega) (Nat.pow_pos (by decide))
  have le : 2 ^ (4 * r + 4) ≤ 2 ^ 64 := Nat.pow_le_pow_right (by decide) (by omega)
  have h := bits_or_u64_nat n (e * 2 ^ (4 * r)) (by omega) (by omega)
  have ed := Nat.shiftLeft_add_eq_or_of_lt lt (n / 2 ^ (4 * r + 4))
  rw [Nat.shiftLeft_eq, Nat.div_mul_cancel (Nat.dvd_of_mod_eq_zero hx')] at ed
  rw [hp]
  have h2 : ((e : Int) * ((2 ^ (4 * r) : Nat) : Int)) = ((e * 2 ^ (4 * r) : Nat) : Int) := by push_cast; rfl
  rw [h2, h, ← ed]
  push_cast; rfl
theorem same_limb (M d : Int) (d0 : 0 ≤ d) (d1 : d ≤ 15) {r : Nat} (hr : r < 16) : (M * 2 ^ (4 * r + 4) + d * 2 ^ (4 * r)) % 18446744073709551616 = (M * 2 ^ (4 * r + 4)) % 18446744073709551616 + d * 2 ^ (4 * r) ∧ (M * 2 ^ (4 * r + 4)) % 18446744073709551616 % 2 ^ (4 * r + 4) = 0 := by
  have : r = 0 ∨ r = 1 ∨ r = 2 ∨ r = 3 ∨ r = 4 ∨ r = 5 ∨ r = 6 ∨ r = 7 ∨ r = 8 ∨ r = 9 ∨ r = 10 ∨ r = 11 ∨ r = 12 ∨ r = 13 ∨ r = 14 ∨ r = 15 := by omega
  rcases this with rfl | rfl | rfl | rfl | rfl | rfl | rfl | rfl | rfl | rfl | rfl | rfl | rfl | rfl | rfl | rfl <;> (simp only [Nat.reduceMul, Nat.reduceAdd, Int.reducePow]; omega)
theorem pow16_split {k : Nat} : (16 : Int) ^ k = 2 ^ (64 * (k / 16)) * 2 ^ (4 * (k % 16)) ∧ (16 : Int) ^ (k + 1) = 2 ^ (64 * (k / 16)) * 2 ^ (4 * (k % 16) + 4) := by
  rw [pow16, pow16, ← Int.pow_add, ← Int.pow_add]
  exact ⟨by congr 1; omega, by congr 1; omega⟩
/-- A digit laid in: its limb. -/
theorem limb_here (M d : Int) (d0 : 0 ≤ d) (d1 : d ≤ 15) {k : Nat} (hk : k < 64) :
    [l0 (M * 16 ^ (k + 1) + d * 16 ^ k), l1 (M * 16 ^ (k + 1) + d * 16 ^ k), l2 (M * 16 ^ (k + 1) + d * 16 ^ k), l3 (M * 16 ^ (k + 1) + d * 16 ^ k)].getD (k / 16) 0 = bits .or .u64 ([l0 (M * 16 ^ (k + 1)), l1 (M * 16 ^ (k + 1)), l2 (M * 16 ^ (k + 1)), l3 (M * 16 ^ (k + 1))].getD (k / 16) 0) (d * 2 ^ (4 * (k % 16))) := by
  have p : (2 : Int) ^ (64 * (k / 16)) ≠ 0 := by have : (0 : Int) < 2 ^ (64 * (k / 16)) := Int.pow_pos (by decide); omega
  obtain ⟨e1, e2⟩ := pow16_split (k := k)
  rw [limb_div _ (by omega), limb_div _ (by omega)]
  have a1 : M * 16 ^ (k + 1) = (M * 2 ^ (4 * (k % 16) + 4)) * 2 ^ (64 * (k / 16)) := by rw [e2, Int.mul_comm (2 ^ (64 * (k / 16))), Int.mul_assoc]
  have a2 : d * 16 ^ k = (d * 2 ^ (4 * (k % 16))) * 2 ^ (64 * (k / 16)) := by rw [e1, Int.mul_comm (2 ^ (64 * (k / 16))), Int.mul_assoc]
  rw [a1, a2, ← Int.add_mul, Int.mul_ediv_cancel _ p, Int.mul_ediv_cancel _ p]
  obtain ⟨s1, s2⟩ := same_limb M d d0 d1 (Nat.mod_lt k (show 0 < 16 by decide))
  rw [s1, or_add (Nat.mod_lt k (by decide)) (by omega) (by omega) d0 d1 s2]
theorem limb_else (M d : Int) (d0 : 0 ≤ d) (d1 : d ≤ 15) {k q : Nat} (hq : q < 4) (ne : q ≠ k / 16) :
    [l0 (M * 16 ^ (k + 1) + d * 16 ^ k), l1 (M * 16 ^ (k + 1) + d * 16 ^ k), l2 (M * 16 ^ (k + 1) + d * 16 ^ k), l3 (M * 16 ^ (k + 1) + d * 16 ^ k)].getD q 0 = [l0 (M * 16 ^ (k + 1)), l1 (M * 16 ^ (k + 1)), l2 (M * 16 ^ (k + 1)), l3 (M * 16 ^ (k + 1))].getD q 0 := by
  rw [limb_div _ hq, limb_div _ hq]
  by_cases hlt : q < k / 16
  · have p : (2 : Int) ^ (64 * q) ≠ 0 := by have : (0 : Int) < 2 ^ (64 * q) := Int.pow_pos (by decide); omega
    have e1 : (16 : Int) ^ k = 2 ^ (4 * k - 64 * q - 64) * 18446744073709551616 * 2 ^ (64 * q) := by
      rw [pow16, show (18446744073709551616 : Int) = 2 ^ 64 by decide, ← Int.pow_add, ← Int.pow_add]; congr 1; omega
    have a1 : M * 16 ^ (k + 1) = (M * 16 * 2 ^ (4 * k - 64 * q - 64)) * 18446744073709551616 * 2 ^ (64 * q) := by
      rw [Int.pow_succ, e1]; simp only [Int.mul_assoc, Int.mul_comm, Int.mul_left_comm]
    have a2 : d * 16 ^ k = (d * 2 ^ (4 * k - 64 * q - 64)) * 18446744073709551616 * 2 ^ (64 * q) := by
      rw [e1]; simp only [Int.mul_assoc]
    rw [a1, a2, ← Int.add_mul, Int.mul_ediv_cancel _ p, Int.mul_ediv_cancel _ p, ← Int.add_mul, Int.mul_emod_left, Int.mul_emod_left]
  · have e1 : (2 : Int) ^ (64 * q) = 16 ^ (k + 1) * 2 ^ (64 * q - 4 * (k + 1)) := by
      rw [pow16, ← Int.pow_add]; congr 1; omega
    have pk : (0 : Int) < 16 ^ k := Int.pow_pos (by decide)
    have p : (0 : Int) < 16 ^ (k + 1) := Int.pow_pos (by decide)
    have s1 : (M * 16 ^ (k + 1) + d * 16 ^ k) / 16 ^ (k + 1) = M := by
      rw [Int.add_comm, Int.add_mul_ediv_right _ _ (by omega), Int.ediv_eq_zero_of_lt (Int.mul_nonneg d0 (by omega))]
      · omega
      · rw [Int.pow_succ, Int.mul_comm]
        generalize (16 : Int) ^ k = P at pk
        have : P * d ≤ P * 15 := Int.mul_le_mul_of_nonneg_left d1 (by omega)
        omega
    have s2 : (M * 16 ^ (k + 1)) / 16 ^ (k + 1) = M := Int.mul_ediv_cancel _ (by omega)
    rw [e1, ← Int.ediv_ediv_of_nonneg (by omega), ← Int.ediv_ediv_of_nonneg (by omega), s1, s2]
theorem getD_setI (C : List Int) (a j : Nat) (v : Int) (h : a < C.length) : (C.set a v).getD j 0 = if j = a then v else C.getD j 0 := by
  by_cases e : j = a
  · subst e; simp [List.getD, h]
  · rw [if_neg e]; simp [List.getD, List.getElem?_set_ne (Ne.symm e)]
/-- The limbs that the digits lay are the number's. -/
theorem qs_num {t : ByteArray} (h : dgs t) (hs : t.size ≤ 64) : ∀ i, i ≤ t.size → qs t i = [l0 (dN t i * 16 ^ (t.size - i)), l1 (dN t i * 16 ^ (t.size - i)), l2 (dN t i * 16 ^ (t.size - i)), l3 (dN t i * 16 ^ (t.size - i))]
  | 0, _ => by rw [dN, Int.zero_mul]; rfl
  | i + 1, hi => by
    have ih := qs_num h hs i (by omega)
    obtain ⟨k, ek⟩ : ∃ k, k = t.size - 1 - i := ⟨_, rfl⟩
    have c := h i (by omega)
    have d := dv_low (bt t i)
    have e1 : t.size - i = k + 1 := by omega
    have e2 : t.size - (i + 1) = k := by omega
    rw [e1] at ih
    have en : dN t (i + 1) * 16 ^ k = dN t i * 16 ^ (k + 1) + dv (bt t i) * 16 ^ k := by
      rw [dN, Int.add_mul, Int.pow_succ, Int.mul_comm 16 (dN t i), Int.mul_assoc, Int.mul_comm 16 (16 ^ k)]
    rw [e2, en, qs, ← ek]
    refine extB (by rw [List.length_set, qs_len]; rfl) fun j hj => ?_
    rw [List.length_set, qs_len] at hj
    rw [getD_setI _ _ _ _ (by rw [qs_len]; omega)]
    by_cases hjk : j = k / 16
    · rw [if_pos hjk, hjk, limb_here _ _ c d.2 (by omega), ih]
    · rw [if_neg hjk, limb_else _ _ c d.2 hj hjk, ih]
theorem dN_num {t : ByteArray} (h : dgs t) (hs : t.size ≤ 64) : Num (dN t t.size) := by
  obtain ⟨a, b⟩ := dN_low h t.size (Nat.le_refl _)
  refine ⟨a, Int.lt_of_lt_of_le b ?_⟩
  have := Nat.pow_le_pow_right (show 0 < 16 by decide) hs
  have e : ((16 ^ t.size : Nat) : Int) ≤ ((16 ^ 64 : Nat) : Int) := by exact_mod_cast this
  rw [show (115792089237316195423570985008687907853269984665640564039457584007913129639936 : Int) = ((16 ^ 64 : Nat) : Int) by decide]
  exact_mod_cast e
theorem qs_lim {t : ByteArray} (h : dgs t) (hs : t.size ≤ 64) : lim4 (qs t t.size) = .agg #[.int .u64 (l0 (dN t t.size)), .int .u64 (l1 (dN t t.size)), .int .u64 (l2 (dN t t.size)), .int .u64 (l3 (dN t t.size))] := by
  have e := qs_num h hs t.size (Nat.le_refl _)
  rw [Nat.sub_self, Int.pow_zero, Int.mul_one] at e
  rw [lim4, e]; rfl
end Go.Proofs.YtidchaaahgnabaaDoor
