import Derived.Test.YtmegdnalpaddmaaExpNum
import Derived.Test.YtmegdnalpaddmaaShl
/- The whole part of the square root, by Newton's steps from above. -/
namespace Go.Proofs.Ytmegdnalpaddmaa

/-- s is the whole part of the square root of n. -/
def IsRoot (n s : Int) : Prop := 0 ≤ s ∧ s * s ≤ n ∧ n < (s + 1) * (s + 1)

theorem root_exists {n : Int} (h : 0 ≤ n) : ∃ s, IsRoot n s := by
  obtain ⟨k, rfl⟩ : ∃ k : Nat, n = k := ⟨n.toNat, by omega⟩
  induction k with
  | zero => exact ⟨0, by decide, by decide, by decide⟩
  | succ k ih =>
    obtain ⟨s, s0, s1, s2⟩ := ih (by omega)
    by_cases c : ((k + 1 : Nat) : Int) < (s + 1) * (s + 1)
    · exact ⟨s, s0, by omega, c⟩
    · refine ⟨s + 1, by omega, by omega, ?_⟩
      have : (s + 1 + 1) * (s + 1 + 1) = (s + 1) * (s + 1) + 2 * s + 3 := by
        simp only [Int.add_mul, Int.mul_add]; omega
      omega

theorem sq_mono {a b : Int} (ha : 0 ≤ a) (h : a ≤ b) : a * a ≤ b * b := Int.mul_le_mul h h ha (by omega)
theorem sq_pos (a : Int) : 0 ≤ a * a := by
  rcases Int.le_total 0 a with h | h
  · exact Int.mul_nonneg h h
  · have := Int.mul_nonneg (show 0 ≤ -a by omega) (show 0 ≤ -a by omega)
    rw [Int.neg_mul_neg] at this
    exact this
theorem four_le (a b : Int) : 4 * (a * b) ≤ (a + b) * (a + b) := by
  have h := sq_pos (a - b)
  have e : (a - b) * (a - b) = (a + b) * (a + b) - 4 * (a * b) := by
    simp only [Int.sub_mul, Int.mul_sub, Int.add_mul, Int.mul_add]
    rw [Int.mul_comm b a]
    omega
  omega

theorem root_one {n s t : Int} (h : IsRoot n s) (h' : IsRoot n t) : s = t := by
  obtain ⟨s0, s1, s2⟩ := h; obtain ⟨t0, t1, t2⟩ := h'
  rcases Int.lt_trichotomy s t with c | c | c
  · have := sq_mono (show 0 ≤ s + 1 by omega) (show s + 1 ≤ t by omega); omega
  · exact c
  · have := sq_mono (show 0 ≤ t + 1 by omega) (show t + 1 ≤ s by omega); omega

/-- A step from a number above 0 does not go below the root. -/
theorem newton_low {n r s : Int} (h : IsRoot n s) (r0 : 0 < r) : s ≤ (r + n / r) / 2 := by
  obtain ⟨s0, s1, s2⟩ := h
  have hq : n < (n / r + 1) * r := by
    have := Int.lt_ediv_add_one_mul_self n r0; exact this
  have f := four_le (n / r + 1) r
  by_cases c : r + n / r < 2 * s
  · have n0 : 0 ≤ n := Int.le_trans (Int.mul_nonneg s0 s0) s1
    have q0 : 0 ≤ n / r := Int.ediv_nonneg n0 (by omega)
    have g := sq_mono (show 0 ≤ n / r + 1 + r by omega) (show n / r + 1 + r ≤ 2 * s by omega)
    have e : (2 * s) * (2 * s) = 4 * (s * s) := by rw [Int.mul_assoc, Int.mul_left_comm s 2 s, ← Int.mul_assoc]; rfl
    omega
  · omega

/-- Where a step does not fall the root is reached. -/
theorem newton_stop {n r s : Int} (h : IsRoot n s) (r0 : 0 < r) (hr : s ≤ r) (hs : r ≤ (r + n / r) / 2) : r = s := by
  obtain ⟨s0, s1, s2⟩ := h
  have q : r ≤ n / r := by omega
  have a := Int.mul_le_of_le_ediv r0 q
  by_cases c : s < r
  · have := sq_mono (show 0 ≤ s + 1 by omega) (show s + 1 ≤ r by omega); omega
  · omega

/-- The quotient is little above the number. -/
theorem newton_small {n r s : Int} (h : IsRoot n s) (r0 : 0 < r) (hr : s ≤ r) : 0 ≤ n / r ∧ n / r ≤ r + 2 := by
  obtain ⟨s0, s1, s2⟩ := h
  have n0 : 0 ≤ n := Int.le_trans (Int.mul_nonneg s0 s0) s1
  refine ⟨Int.ediv_nonneg n0 (by omega), ?_⟩
  have g := sq_mono (show 0 ≤ s + 1 by omega) (show s + 1 ≤ r + 1 by omega)
  have e : (r + 1) * (r + 1) = (r + 2) * r + 1 := by simp only [Int.add_mul, Int.mul_add]; omega
  have : n / r < r + 2 + 1 := Int.ediv_lt_of_lt_mul r0 (by
    have : (r + 2 + 1) * r = (r + 2) * r + r := by rw [Int.add_mul (r + 2) 1 r, Int.one_mul]
    omega)
  omega

theorem pow_mono {a b : Nat} (h : a ≤ b) : (2 : Int) ^ a ≤ 2 ^ b := by
  have := Nat.pow_le_pow_right (show 0 < 2 by decide) h
  exact_mod_cast this

/-- The first number is above the root, and not too great. -/
theorem root_start {n s : Int} {j : Nat} (hj : n < 2 ^ j) (h : IsRoot n s) : s ≤ 2 ^ ((j + 1) / 2) := by
  obtain ⟨s0, s1, s2⟩ := h
  by_cases c : s ≤ 2 ^ ((j + 1) / 2)
  · exact c
  · have p : (0 : Int) < 2 ^ ((j + 1) / 2) := Int.pow_pos (by decide)
    have g := sq_mono (Int.le_of_lt p) (show (2 : Int) ^ ((j + 1) / 2) ≤ s by omega)
    rw [← Int.pow_add] at g
    have e : (2 : Int) ^ j ≤ 2 ^ ((j + 1) / 2 + (j + 1) / 2) := pow_mono (by omega)
    omega
theorem shl_one {k : Nat} (h : k ≤ 128) : shlN 1 k = 2 ^ k := by
  unfold shlN
  rw [if_neg (by omega), if_neg (by omega)]
  unfold upN
  rw [Int.toNat_natCast, Int.one_mul]
  have a : (2 : Int) ^ k ≤ 2 ^ 128 := pow_mono h
  have p : (0 : Int) < 2 ^ k := Int.pow_pos (by decide)
  rw [show (2 : Int) ^ 128 = 340282366920938463463374607431768211456 by decide] at a
  exact Int.emod_eq_of_lt (by omega) (by omega)
theorem pow_small {k : Nat} (h : k ≤ 128) : (0 : Int) < 2 ^ k ∧ (2 : Int) ^ k ≤ 340282366920938463463374607431768211456 := by
  have a : (2 : Int) ^ k ≤ 2 ^ 128 := pow_mono h
  have p : (0 : Int) < 2 ^ k := Int.pow_pos (by decide)
  rw [show (2 : Int) ^ 128 = 340282366920938463463374607431768211456 by decide] at a
  exact ⟨p, a⟩
theorem shr_half {n : Int} : shrN n 1 = n / 2 := by
  unfold shrN
  rw [if_neg (by decide), if_neg (by decide)]
  unfold downN
  rfl

end Go.Proofs.Ytmegdnalpaddmaa
