import Derived.Test.YtmegdnalpaddmaaDivide1
import Derived.Test.YtmegdnalpaddmaaDivide2
import Derived.Test.YtmegdnalpaddmaaDivide3
import Derived.Test.YtmegdnalpaddmaaDivide4
namespace Go.Proofs.Ytmegdnalpaddmaa
open Go.RowKit

theorem horner {t V D Q R U q R' : Int} (h : V = D * Q + R) (u : t + 18446744073709551616 * R = U) (e : U = D * q + R') : t + 18446744073709551616 * V = D * (q + 18446744073709551616 * Q) + R' := by
  rw [h, Int.mul_add, Int.mul_add D, Int.mul_left_comm D _ Q]
  generalize D * Q = a at *
  generalize D * q = b at *
  omega

theorem fin_div {X m P D Q R : Int} (hP : 0 < P) (hm : 0 < m) (e : X * P = D * Q + R) (eD : D = m * P) (r0 : 0 ≤ R) (r1 : R < D) : X / m = Q ∧ X % m = R / P := by
  have hR : R = (X - m * Q) * P := by
    rw [Int.sub_mul, e, eD, Int.mul_right_comm]
    generalize m * Q * P = a
    omega
  have h0 : 0 ≤ X - m * Q := by
    rcases Int.lt_or_le (X - m * Q) 0 with h | h
    · have := Int.mul_neg_of_neg_of_pos h hP
      omega
    · exact h
  have h1 : X - m * Q < m := by
    rw [eD, hR] at r1
    exact Int.lt_of_mul_lt_mul_right r1 (by omega)
  have d := (Int.ediv_emod_unique (a := X) (b := m) (r := X - m * Q) (q := Q) hm).2 ⟨by omega, h0, h1⟩
  refine ⟨d.1, d.2.trans ?_⟩
  rw [hR, Int.mul_ediv_cancel _ (by omega)]

theorem top_lt {V P lo hi c d : Int} (_hP : 0 < P) (lo0 : 0 ≤ lo) (e : V = lo + c * hi) (hc : 0 < c) (hV : V < c * (d * P)) : hi < d * P := by
  have : c * hi < c * (d * P) := by omega
  exact Int.lt_of_mul_lt_mul_left this (by omega)

/-- 2^b and 2^(63 - b). -/
theorem pow_63 {b : Nat} (h : b ≤ 63) : (2 : Int) ^ b * 2 ^ (63 - (b : Int)).toNat = 9223372036854775808 ∧ (2 : Int) ^ (b + 1) * 2 ^ (63 - (b : Int)).toNat = 18446744073709551616 := by
  constructor
  · rw [← Int.pow_add, show b + (63 - (b : Int)).toNat = 63 by omega]; decide
  · rw [← Int.pow_add, show b + 1 + (63 - (b : Int)).toNat = 64 by omega]; decide

theorem divide_any_1 {x0 x1 x2 x3 x4 x5 x6 x7 m0 : Int} (h0 : Word x0) (h1 : Word x1) (h2 : Word x2) (h3 : Word x3) (h4 : Word x4) (h5 : Word x5) (h6 : Word x6) (h7 : Word x7) (k0 : Word m0) (hz : m0 ≠ 0) :
    ∃ q0 q1 q2 q3 q4 q5 q6 q7 : Int, Words [q0, q1, q2, q3, q4, q5, q6, q7] ∧ val [q0, q1, q2, q3, q4, q5, q6, q7] = val [x0, x1, x2, x3, x4, x5, x6, x7] / num m0 0 0 0 ∧ ∀ w : World,
    Calls Try.prog 41 #[.agg #[.int .u64 x0, .int .u64 x1, .int .u64 x2, .int .u64 x3, .int .u64 x4, .int .u64 x5, .int .u64 x6, .int .u64 x7], .agg #[.int .u64 (l0 (num m0 0 0 0)), .int .u64 (l1 (num m0 0 0 0)), .int .u64 (l2 (num m0 0 0 0)), .int .u64 (l3 (num m0 0 0 0))]] w fun e w' => e = .returned (.tuple #[.agg #[.int .u64 q0, .int .u64 q1, .int .u64 q2, .int .u64 q3, .int .u64 q4, .int .u64 q5, .int .u64 q6, .int .u64 q7], .agg #[.int .u64 (l0 (val [x0, x1, x2, x3, x4, x5, x6, x7] % num m0 0 0 0)), .int .u64 (l1 (val [x0, x1, x2, x3, x4, x5, x6, x7] % num m0 0 0 0)), .int .u64 (l2 (val [x0, x1, x2, x3, x4, x5, x6, x7] % num m0 0 0 0)), .int .u64 (l3 (val [x0, x1, x2, x3, x4, x5, x6, x7] % num m0 0 0 0))]]) ∧ Below w.heap.size w w' := by
  obtain ⟨b, eb, b1, bl, bh⟩ := len_limb k0 hz
  have z : Word 0 := ⟨by decide, by decide⟩
  have hm : Num (num m0 0 0 0) := num_Num k0 z z z
  have el : l0 (num m0 0 0 0) = m0 := l0_num k0
  have eL := len_num_0  bl bh
  obtain ⟨p1, p2⟩ := pow_63 b1
  have s0 : 0 ≤ 63 - (b : Int) := by omega
  have s1 : 63 - (b : Int) ≤ 63 := by omega
  have lz : ∀ w, Calls Try.prog 51 #[.int .u64 (l0 (num m0 0 0 0))] w fun e w' => e = .returned (.int .i64 (63 - (b : Int))) ∧ w' = w := by
    intro w
    rw [el]
    have r := Try.bits_LeadingZeros64 m0 w k0.1 (by have := k0.2; omega)
    rw [eb, show (64 : Int) - ((b : Int) + 1) = 63 - (b : Int) by omega] at r
    exact r
  obtain ⟨_, p0, _⟩ := pow_pair s0 s1
  have mu1 : (num m0 0 0 0) < 1 * (m0 + 1) := by unfold num Word at *; omega
  have mu2 : 1 * m0 ≤ (num m0 0 0 0) := by unfold num Word at *; omega
  have mu3 : 0 < (num m0 0 0 0) := by have := k0.1; omega
  obtain ⟨t0, t1, t2, t3, t4, t5, t6, t7, t8, wt, vt, li⟩ := lift_any h0 h1 h2 h3 h4 h5 h6 h7 s0 s1
  have wx : Words [x0, x1, x2, x3, x4, x5, x6, x7] := by
    intro x hx
    simp only [List.mem_cons, List.not_mem_nil, or_false] at hx
    rcases hx with rfl | rfl | rfl | rfl | rfl | rfl | rfl | rfl <;> assumption
  have vx := val_nonneg wx
  rw [show ([x0, x1, x2, x3, x4, x5, x6, x7] : List Int).length = 8 from rfl, show (18446744073709551616 : Int) ^ 8 = 13407807929942597099574024998205846127479365820592393377723561443721764030073546976801874298166903427690031858186486050853753882811946569946433649006084096 by decide] at vx
  generalize hP : (2 : Int) ^ (63 - (b : Int)).toNat = P at *
  generalize hmm : (num m0 0 0 0) = m at *
  -- the divisor, moved up
  have d1 : m * P < 18446744073709551616 := by
    have a : m * P < (1 * 2 ^ (b + 1)) * P := Int.mul_lt_mul_of_pos_right (by omega) (by omega)
    rw [Int.mul_assoc, p2] at a
    omega
  have d2 : 9223372036854775808 ≤ m * P := by
    have a : (1 * 2 ^ b) * P ≤ m * P := Int.mul_le_mul_of_nonneg_right (by omega) (by omega)
    rw [Int.mul_assoc, p1] at a
    omega
  have eD : upN m (63 - (b : Int)) = m * P := by
    unfold upN
    rw [hP]
    exact Int.emod_eq_of_lt (by omega) (by omega)
  have hn : 9223372036854775808 ≤ l0 (m * P) := by unfold l0; omega
  have vD : val [(l0 (m * P))] = m * P := by
    simp only [val]; unfold l0; omega
  have D0 : 0 < m * P := by omega
  have wlo := val_nonneg (l := [t0, t1, t2, t3, t4, t5, t6, t7]) (fun x hx => wt x (by simp only [List.mem_cons] at *; simp at hx; rcases hx with rfl | rfl | rfl | rfl | rfl | rfl | rfl | rfl <;> simp))
  have whi := val_nonneg (l := [t8]) (fun x hx => wt x (List.mem_of_mem_drop (show x ∈ [t0, t1, t2, t3, t4, t5, t6, t7, t8].drop 8 from hx)))
  have vsplit : val [t0, t1, t2, t3, t4, t5, t6, t7, t8] = val [t0, t1, t2, t3, t4, t5, t6, t7] + 13407807929942597099574024998205846127479365820592393377723561443721764030073546976801874298166903427690031858186486050853753882811946569946433649006084096 * val [t8] := by simp only [val]; omega
  have gtop : val [t8] < m * P := by
    have a : val [t0, t1, t2, t3, t4, t5, t6, t7, t8] < 13407807929942597099574024998205846127479365820592393377723561443721764030073546976801874298166903427690031858186486050853753882811946569946433649006084096 * P := by rw [vt]; exact Int.mul_lt_mul_of_pos_right vx.2 (by omega)
    have h : val [t8] < 1 * P := top_lt (V := val [t0, t1, t2, t3, t4, t5, t6, t7, t8]) (c := 13407807929942597099574024998205846127479365820592393377723561443721764030073546976801874298166903427690031858186486050853753882811946569946433649006084096) (d := 1) (by omega) wlo.1 vsplit (by decide) (by rw [← Int.mul_assoc]; simpa using a)
    have i : 1 * P ≤ 9223372036854775808 := by
      have : P ≤ 9223372036854775808 := by
        rw [← p1]
        have q : (1 : Int) ≤ 2 ^ b := Int.pow_pos (by decide)
        have := Int.mul_le_mul_of_nonneg_right q (show 0 ≤ P by omega)
        omega
      omega
    omega
  obtain ⟨R8, r8⟩ : ∃ R, val [t8] = R := ⟨_, rfl⟩
  rw [r8] at gtop whi
  have g8 := gtop
  have n8 := whi.1
  obtain ⟨q7, e7⟩ : ∃ q, (t7 + 18446744073709551616 * R8) / (m * P) = q := ⟨_, rfl⟩
  obtain ⟨R7, r7⟩ : ∃ R, (t7 + 18446744073709551616 * R8) % (m * P) = R := ⟨_, rfl⟩
  have n7 : 0 ≤ R7 := by rw [← r7]; exact Int.emod_nonneg _ (by omega)
  have g7 : R7 < m * P := by rw [← r7]; exact Int.emod_lt_of_pos _ D0
  have w7 : Word q7 := by
    obtain ⟨_, _⟩ := wt t7 (by simp)
    rw [← e7]
    exact ⟨Int.ediv_nonneg (by omega) (by omega), Int.ediv_lt_of_lt_mul D0 (by omega)⟩
  have y7 : t7 + 18446744073709551616 * R8 = m * P * q7 + R7 := by
    have := Int.emod_add_mul_ediv (t7 + 18446744073709551616 * R8) (m * P)
    rw [e7, r7] at this
    omega
  obtain ⟨q6, e6⟩ : ∃ q, (t6 + 18446744073709551616 * R7) / (m * P) = q := ⟨_, rfl⟩
  obtain ⟨R6, r6⟩ : ∃ R, (t6 + 18446744073709551616 * R7) % (m * P) = R := ⟨_, rfl⟩
  have n6 : 0 ≤ R6 := by rw [← r6]; exact Int.emod_nonneg _ (by omega)
  have g6 : R6 < m * P := by rw [← r6]; exact Int.emod_lt_of_pos _ D0
  have w6 : Word q6 := by
    obtain ⟨_, _⟩ := wt t6 (by simp)
    rw [← e6]
    exact ⟨Int.ediv_nonneg (by omega) (by omega), Int.ediv_lt_of_lt_mul D0 (by omega)⟩
  have y6 : t6 + 18446744073709551616 * R7 = m * P * q6 + R6 := by
    have := Int.emod_add_mul_ediv (t6 + 18446744073709551616 * R7) (m * P)
    rw [e6, r6] at this
    omega
  obtain ⟨q5, e5⟩ : ∃ q, (t5 + 18446744073709551616 * R6) / (m * P) = q := ⟨_, rfl⟩
  obtain ⟨R5, r5⟩ : ∃ R, (t5 + 18446744073709551616 * R6) % (m * P) = R := ⟨_, rfl⟩
  have n5 : 0 ≤ R5 := by rw [← r5]; exact Int.emod_nonneg _ (by omega)
  have g5 : R5 < m * P := by rw [← r5]; exact Int.emod_lt_of_pos _ D0
  have w5 : Word q5 := by
    obtain ⟨_, _⟩ := wt t5 (by simp)
    rw [← e5]
    exact ⟨Int.ediv_nonneg (by omega) (by omega), Int.ediv_lt_of_lt_mul D0 (by omega)⟩
  have y5 : t5 + 18446744073709551616 * R6 = m * P * q5 + R5 := by
    have := Int.emod_add_mul_ediv (t5 + 18446744073709551616 * R6) (m * P)
    rw [e5, r5] at this
    omega
  obtain ⟨q4, e4⟩ : ∃ q, (t4 + 18446744073709551616 * R5) / (m * P) = q := ⟨_, rfl⟩
  obtain ⟨R4, r4⟩ : ∃ R, (t4 + 18446744073709551616 * R5) % (m * P) = R := ⟨_, rfl⟩
  have n4 : 0 ≤ R4 := by rw [← r4]; exact Int.emod_nonneg _ (by omega)
  have g4 : R4 < m * P := by rw [← r4]; exact Int.emod_lt_of_pos _ D0
  have w4 : Word q4 := by
    obtain ⟨_, _⟩ := wt t4 (by simp)
    rw [← e4]
    exact ⟨Int.ediv_nonneg (by omega) (by omega), Int.ediv_lt_of_lt_mul D0 (by omega)⟩
  have y4 : t4 + 18446744073709551616 * R5 = m * P * q4 + R4 := by
    have := Int.emod_add_mul_ediv (t4 + 18446744073709551616 * R5) (m * P)
    rw [e4, r4] at this
    omega
  obtain ⟨q3, e3⟩ : ∃ q, (t3 + 18446744073709551616 * R4) / (m * P) = q := ⟨_, rfl⟩
  obtain ⟨R3, r3⟩ : ∃ R, (t3 + 18446744073709551616 * R4) % (m * P) = R := ⟨_, rfl⟩
  have n3 : 0 ≤ R3 := by rw [← r3]; exact Int.emod_nonneg _ (by omega)
  have g3 : R3 < m * P := by rw [← r3]; exact Int.emod_lt_of_pos _ D0
  have w3 : Word q3 := by
    obtain ⟨_, _⟩ := wt t3 (by simp)
    rw [← e3]
    exact ⟨Int.ediv_nonneg (by omega) (by omega), Int.ediv_lt_of_lt_mul D0 (by omega)⟩
  have y3 : t3 + 18446744073709551616 * R4 = m * P * q3 + R3 := by
    have := Int.emod_add_mul_ediv (t3 + 18446744073709551616 * R4) (m * P)
    rw [e3, r3] at this
    omega
  obtain ⟨q2, e2⟩ : ∃ q, (t2 + 18446744073709551616 * R3) / (m * P) = q := ⟨_, rfl⟩
  obtain ⟨R2, r2⟩ : ∃ R, (t2 + 18446744073709551616 * R3) % (m * P) = R := ⟨_, rfl⟩
  have n2 : 0 ≤ R2 := by rw [← r2]; exact Int.emod_nonneg _ (by omega)
  have g2 : R2 < m * P := by rw [← r2]; exact Int.emod_lt_of_pos _ D0
  have w2 : Word q2 := by
    obtain ⟨_, _⟩ := wt t2 (by simp)
    rw [← e2]
    exact ⟨Int.ediv_nonneg (by omega) (by omega), Int.ediv_lt_of_lt_mul D0 (by omega)⟩
  have y2 : t2 + 18446744073709551616 * R3 = m * P * q2 + R2 := by
    have := Int.emod_add_mul_ediv (t2 + 18446744073709551616 * R3) (m * P)
    rw [e2, r2] at this
    omega
  obtain ⟨q1, e1⟩ : ∃ q, (t1 + 18446744073709551616 * R2) / (m * P) = q := ⟨_, rfl⟩
  obtain ⟨R1, r1⟩ : ∃ R, (t1 + 18446744073709551616 * R2) % (m * P) = R := ⟨_, rfl⟩
  have n1 : 0 ≤ R1 := by rw [← r1]; exact Int.emod_nonneg _ (by omega)
  have g1 : R1 < m * P := by rw [← r1]; exact Int.emod_lt_of_pos _ D0
  have w1 : Word q1 := by
    obtain ⟨_, _⟩ := wt t1 (by simp)
    rw [← e1]
    exact ⟨Int.ediv_nonneg (by omega) (by omega), Int.ediv_lt_of_lt_mul D0 (by omega)⟩
  have y1 : t1 + 18446744073709551616 * R2 = m * P * q1 + R1 := by
    have := Int.emod_add_mul_ediv (t1 + 18446744073709551616 * R2) (m * P)
    rw [e1, r1] at this
    omega
  obtain ⟨q0, e0⟩ : ∃ q, (t0 + 18446744073709551616 * R1) / (m * P) = q := ⟨_, rfl⟩
  obtain ⟨R0, r0⟩ : ∃ R, (t0 + 18446744073709551616 * R1) % (m * P) = R := ⟨_, rfl⟩
  have n0 : 0 ≤ R0 := by rw [← r0]; exact Int.emod_nonneg _ (by omega)
  have g0 : R0 < m * P := by rw [← r0]; exact Int.emod_lt_of_pos _ D0
  have w0 : Word q0 := by
    obtain ⟨_, _⟩ := wt t0 (by simp)
    rw [← e0]
    exact ⟨Int.ediv_nonneg (by omega) (by omega), Int.ediv_lt_of_lt_mul D0 (by omega)⟩
  have y0 : t0 + 18446744073709551616 * R1 = m * P * q0 + R0 := by
    have := Int.emod_add_mul_ediv (t0 + 18446744073709551616 * R1) (m * P)
    rw [e0, r0] at this
    omega
  have H8 : val [t8] = m * P * val [] + R8 := by rw [r8]; simp [val]
  have H7 : val [t7, t8] = m * P * val [q7] + R7 := horner H8 rfl y7
  have H6 : val [t6, t7, t8] = m * P * val [q6, q7] + R6 := horner H7 rfl y6
  have H5 : val [t5, t6, t7, t8] = m * P * val [q5, q6, q7] + R5 := horner H6 rfl y5
  have H4 : val [t4, t5, t6, t7, t8] = m * P * val [q4, q5, q6, q7] + R4 := horner H5 rfl y4
  have H3 : val [t3, t4, t5, t6, t7, t8] = m * P * val [q3, q4, q5, q6, q7] + R3 := horner H4 rfl y3
  have H2 : val [t2, t3, t4, t5, t6, t7, t8] = m * P * val [q2, q3, q4, q5, q6, q7] + R2 := horner H3 rfl y2
  have H1 : val [t1, t2, t3, t4, t5, t6, t7, t8] = m * P * val [q1, q2, q3, q4, q5, q6, q7] + R1 := horner H2 rfl y1
  have H0 : val [t0, t1, t2, t3, t4, t5, t6, t7, t8] = m * P * val [q0, q1, q2, q3, q4, q5, q6, q7] + R0 := horner H1 rfl y0
  rw [vt] at H0
  obtain ⟨f1, f2⟩ := fin_div (by omega) mu3 H0 rfl n0 g0
  have C := fun w => divide_1 hm (by omega) (by omega) eL (by omega) s0 s1 lz eD hn vD d1 wt li r8 g8 e7 r7 e6 r6 e5 r5 e4 r4 e3 r3 e2 r2 e1 r1 e0 r0 w
  refine ⟨q0, q1, q2, q3, q4, q5, q6, q7, ?_, ?_, ?_⟩
  · intro x hx
    simp only [List.mem_cons, List.not_mem_nil, or_false] at hx
    rcases hx with rfl | rfl | rfl | rfl | rfl | rfl | rfl | rfl <;> assumption
  · rw [f1]
  · intro w
    have c := C w
    unfold downN at c
    rw [hP, ← f2] at c
    exact c

theorem divide_any_2 {x0 x1 x2 x3 x4 x5 x6 x7 m0 m1 : Int} (h0 : Word x0) (h1 : Word x1) (h2 : Word x2) (h3 : Word x3) (h4 : Word x4) (h5 : Word x5) (h6 : Word x6) (h7 : Word x7) (k0 : Word m0) (k1 : Word m1) (hz : m1 ≠ 0) :
    ∃ q0 q1 q2 q3 q4 q5 q6 q7 : Int, Words [q0, q1, q2, q3, q4, q5, q6, q7] ∧ val [q0, q1, q2, q3, q4, q5, q6, q7] = val [x0, x1, x2, x3, x4, x5, x6, x7] / num m0 m1 0 0 ∧ ∀ w : World,
    Calls Try.prog 41 #[.agg #[.int .u64 x0, .int .u64 x1, .int .u64 x2, .int .u64 x3, .int .u64 x4, .int .u64 x5, .int .u64 x6, .int .u64 x7], .agg #[.int .u64 (l0 (num m0 m1 0 0)), .int .u64 (l1 (num m0 m1 0 0)), .int .u64 (l2 (num m0 m1 0 0)), .int .u64 (l3 (num m0 m1 0 0))]] w fun e w' => e = .returned (.tuple #[.agg #[.int .u64 q0, .int .u64 q1, .int .u64 q2, .int .u64 q3, .int .u64 q4, .int .u64 q5, .int .u64 q6, .int .u64 q7], .agg #[.int .u64 (l0 (val [x0, x1, x2, x3, x4, x5, x6, x7] % num m0 m1 0 0)), .int .u64 (l1 (val [x0, x1, x2, x3, x4, x5, x6, x7] % num m0 m1 0 0)), .int .u64 (l2 (val [x0, x1, x2, x3, x4, x5, x6, x7] % num m0 m1 0 0)), .int .u64 (l3 (val [x0, x1, x2, x3, x4, x5, x6, x7] % num m0 m1 0 0))]]) ∧ Below w.heap.size w w' := by
  obtain ⟨b, eb, b1, bl, bh⟩ := len_limb k1 hz
  have z : Word 0 := ⟨by decide, by decide⟩
  have hm : Num (num m0 m1 0 0) := num_Num k0 k1 z z
  have el : l1 (num m0 m1 0 0) = m1 := l1_num k0 k1
  have eL := len_num_1 k0 bl bh
  obtain ⟨p1, p2⟩ := pow_63 b1
  have s0 : 0 ≤ 63 - (b : Int) := by omega
  have s1 : 63 - (b : Int) ≤ 63 := by omega
  have lz : ∀ w, Calls Try.prog 51 #[.int .u64 (l1 (num m0 m1 0 0))] w fun e w' => e = .returned (.int .i64 (63 - (b : Int))) ∧ w' = w := by
    intro w
    rw [el]
    have r := Try.bits_LeadingZeros64 m1 w k1.1 (by have := k1.2; omega)
    rw [eb, show (64 : Int) - ((b : Int) + 1) = 63 - (b : Int) by omega] at r
    exact r
  obtain ⟨_, p0, _⟩ := pow_pair s0 s1
  have mu1 : (num m0 m1 0 0) < 18446744073709551616 * (m1 + 1) := by unfold num Word at *; omega
  have mu2 : 18446744073709551616 * m1 ≤ (num m0 m1 0 0) := by unfold num Word at *; omega
  have mu3 : 0 < (num m0 m1 0 0) := by have := k1.1; omega
  obtain ⟨t0, t1, t2, t3, t4, t5, t6, t7, t8, wt, vt, li⟩ := lift_any h0 h1 h2 h3 h4 h5 h6 h7 s0 s1
  have wx : Words [x0, x1, x2, x3, x4, x5, x6, x7] := by
    intro x hx
    simp only [List.mem_cons, List.not_mem_nil, or_false] at hx
    rcases hx with rfl | rfl | rfl | rfl | rfl | rfl | rfl | rfl <;> assumption
  have vx := val_nonneg wx
  rw [show ([x0, x1, x2, x3, x4, x5, x6, x7] : List Int).length = 8 from rfl, show (18446744073709551616 : Int) ^ 8 = 13407807929942597099574024998205846127479365820592393377723561443721764030073546976801874298166903427690031858186486050853753882811946569946433649006084096 by decide] at vx
  generalize hP : (2 : Int) ^ (63 - (b : Int)).toNat = P at *
  generalize hmm : (num m0 m1 0 0) = m at *
  -- the divisor, moved up
  have d1 : m * P < 340282366920938463463374607431768211456 := by
    have a : m * P < (18446744073709551616 * 2 ^ (b + 1)) * P := Int.mul_lt_mul_of_pos_right (by omega) (by omega)
    rw [Int.mul_assoc, p2] at a
    omega
  have d2 : 170141183460469231731687303715884105728 ≤ m * P := by
    have a : (18446744073709551616 * 2 ^ b) * P ≤ m * P := Int.mul_le_mul_of_nonneg_right (by omega) (by omega)
    rw [Int.mul_assoc, p1] at a
    omega
  have eD : upN m (63 - (b : Int)) = m * P := by
    unfold upN
    rw [hP]
    exact Int.emod_eq_of_lt (by omega) (by omega)
  have hn : 9223372036854775808 ≤ l1 (m * P) := by unfold l1; omega
  have vD : val [(l0 (m * P)), (l1 (m * P))] = m * P := by
    simp only [val]; unfold l0 l1; omega
  have D0 : 0 < m * P := by omega
  have wlo := val_nonneg (l := [t0, t1, t2, t3, t4, t5, t6]) (fun x hx => wt x (by simp only [List.mem_cons] at *; simp at hx; rcases hx with rfl | rfl | rfl | rfl | rfl | rfl | rfl <;> simp))
  have whi := val_nonneg (l := [t7, t8]) (fun x hx => wt x (List.mem_of_mem_drop (show x ∈ [t0, t1, t2, t3, t4, t5, t6, t7, t8].drop 7 from hx)))
  have vsplit : val [t0, t1, t2, t3, t4, t5, t6, t7, t8] = val [t0, t1, t2, t3, t4, t5, t6] + 726838724295606890549323807888004534353641360687318060281490199180639288113397923326191050713763565560762521606266177933534601628614656 * val [t7, t8] := by simp only [val]; omega
  have gtop : val [t7, t8] < m * P := by
    have a : val [t0, t1, t2, t3, t4, t5, t6, t7, t8] < 13407807929942597099574024998205846127479365820592393377723561443721764030073546976801874298166903427690031858186486050853753882811946569946433649006084096 * P := by rw [vt]; exact Int.mul_lt_mul_of_pos_right vx.2 (by omega)
    have h : val [t7, t8] < 18446744073709551616 * P := top_lt (V := val [t0, t1, t2, t3, t4, t5, t6, t7, t8]) (c := 726838724295606890549323807888004534353641360687318060281490199180639288113397923326191050713763565560762521606266177933534601628614656) (d := 18446744073709551616) (by omega) wlo.1 vsplit (by decide) (by rw [← Int.mul_assoc]; simpa using a)
    have i : 18446744073709551616 * P ≤ 170141183460469231731687303715884105728 := by
      have : P ≤ 9223372036854775808 := by
        rw [← p1]
        have q : (1 : Int) ≤ 2 ^ b := Int.pow_pos (by decide)
        have := Int.mul_le_mul_of_nonneg_right q (show 0 ≤ P by omega)
        omega
      omega
    omega
  obtain ⟨R7, r7⟩ : ∃ R, val [t7, t8] = R := ⟨_, rfl⟩
  rw [r7] at gtop whi
  have g7 := gtop
  have n7 := whi.1
  obtain ⟨q6, e6⟩ : ∃ q, (t6 + 18446744073709551616 * R7) / (m * P) = q := ⟨_, rfl⟩
  obtain ⟨R6, r6⟩ : ∃ R, (t6 + 18446744073709551616 * R7) % (m * P) = R := ⟨_, rfl⟩
  have n6 : 0 ≤ R6 := by rw [← r6]; exact Int.emod_nonneg _ (by omega)
  have g6 : R6 < m * P := by rw [← r6]; exact Int.emod_lt_of_pos _ D0
  have w6 : Word q6 := by
    obtain ⟨_, _⟩ := wt t6 (by simp)
    rw [← e6]
    exact ⟨Int.ediv_nonneg (by omega) (by omega), Int.ediv_lt_of_lt_mul D0 (by omega)⟩
  have y6 : t6 + 18446744073709551616 * R7 = m * P * q6 + R6 := by
    have := Int.emod_add_mul_ediv (t6 + 18446744073709551616 * R7) (m * P)
    rw [e6, r6] at this
    omega
  obtain ⟨q5, e5⟩ : ∃ q, (t5 + 18446744073709551616 * R6) / (m * P) = q := ⟨_, rfl⟩
  obtain ⟨R5, r5⟩ : ∃ R, (t5 + 18446744073709551616 * R6) % (m * P) = R := ⟨_, rfl⟩
  have n5 : 0 ≤ R5 := by rw [← r5]; exact Int.emod_nonneg _ (by omega)
  have g5 : R5 < m * P := by rw [← r5]; exact Int.emod_lt_of_pos _ D0
  have w5 : Word q5 := by
    obtain ⟨_, _⟩ := wt t5 (by simp)
    rw [← e5]
    exact ⟨Int.ediv_nonneg (by omega) (by omega), Int.ediv_lt_of_lt_mul D0 (by omega)⟩
  have y5 : t5 + 18446744073709551616 * R6 = m * P * q5 + R5 := by
    have := Int.emod_add_mul_ediv (t5 + 18446744073709551616 * R6) (m * P)
    rw [e5, r5] at this
    omega
  obtain ⟨q4, e4⟩ : ∃ q, (t4 + 18446744073709551616 * R5) / (m * P) = q := ⟨_, rfl⟩
  obtain ⟨R4, r4⟩ : ∃ R, (t4 + 18446744073709551616 * R5) % (m * P) = R := ⟨_, rfl⟩
  have n4 : 0 ≤ R4 := by rw [← r4]; exact Int.emod_nonneg _ (by omega)
  have g4 : R4 < m * P := by rw [← r4]; exact Int.emod_lt_of_pos _ D0
  have w4 : Word q4 := by
    obtain ⟨_, _⟩ := wt t4 (by simp)
    rw [← e4]
    exact ⟨Int.ediv_nonneg (by omega) (by omega), Int.ediv_lt_of_lt_mul D0 (by omega)⟩
  have y4 : t4 + 18446744073709551616 * R5 = m * P * q4 + R4 := by
    have := Int.emod_add_mul_ediv (t4 + 18446744073709551616 * R5) (m * P)
    rw [e4, r4] at this
    omega
  obtain ⟨q3, e3⟩ : ∃ q, (t3 + 18446744073709551616 * R4) / (m * P) = q := ⟨_, rfl⟩
  obtain ⟨R3, r3⟩ : ∃ R, (t3 + 18446744073709551616 * R4) % (m * P) = R := ⟨_, rfl⟩
  have n3 : 0 ≤ R3 := by rw [← r3]; exact Int.emod_nonneg _ (by omega)
  have g3 : R3 < m * P := by rw [← r3]; exact Int.emod_lt_of_pos _ D0
  have w3 : Word q3 := by
    obtain ⟨_, _⟩ := wt t3 (by simp)
    rw [← e3]
    exact ⟨Int.ediv_nonneg (by omega) (by omega), Int.ediv_lt_of_lt_mul D0 (by omega)⟩
  have y3 : t3 + 18446744073709551616 * R4 = m * P * q3 + R3 := by
    have := Int.emod_add_mul_ediv (t3 + 18446744073709551616 * R4) (m * P)
    rw [e3, r3] at this
    omega
  obtain ⟨q2, e2⟩ : ∃ q, (t2 + 18446744073709551616 * R3) / (m * P) = q := ⟨_, rfl⟩
  obtain ⟨R2, r2⟩ : ∃ R, (t2 + 18446744073709551616 * R3) % (m * P) = R := ⟨_, rfl⟩
  have n2 : 0 ≤ R2 := by rw [← r2]; exact Int.emod_nonneg _ (by omega)
  have g2 : R2 < m * P := by rw [← r2]; exact Int.emod_lt_of_pos _ D0
  have w2 : Word q2 := by
    obtain ⟨_, _⟩ := wt t2 (by simp)
    rw [← e2]
    exact ⟨Int.ediv_nonneg (by omega) (by omega), Int.ediv_lt_of_lt_mul D0 (by omega)⟩
  have y2 : t2 + 18446744073709551616 * R3 = m * P * q2 + R2 := by
    have := Int.emod_add_mul_ediv (t2 + 18446744073709551616 * R3) (m * P)
    rw [e2, r2] at this
    omega
  obtain ⟨q1, e1⟩ : ∃ q, (t1 + 18446744073709551616 * R2) / (m * P) = q := ⟨_, rfl⟩
  obtain ⟨R1, r1⟩ : ∃ R, (t1 + 18446744073709551616 * R2) % (m * P) = R := ⟨_, rfl⟩
  have n1 : 0 ≤ R1 := by rw [← r1]; exact Int.emod_nonneg _ (by omega)
  have g1 : R1 < m * P := by rw [← r1]; exact Int.emod_lt_of_pos _ D0
  have w1 : Word q1 := by
    obtain ⟨_, _⟩ := wt t1 (by simp)
    rw [← e1]
    exact ⟨Int.ediv_nonneg (by omega) (by omega), Int.ediv_lt_of_lt_mul D0 (by omega)⟩
  have y1 : t1 + 18446744073709551616 * R2 = m * P * q1 + R1 := by
    have := Int.emod_add_mul_ediv (t1 + 18446744073709551616 * R2) (m * P)
    rw [e1, r1] at this
    omega
  obtain ⟨q0, e0⟩ : ∃ q, (t0 + 18446744073709551616 * R1) / (m * P) = q := ⟨_, rfl⟩
  obtain ⟨R0, r0⟩ : ∃ R, (t0 + 18446744073709551616 * R1) % (m * P) = R := ⟨_, rfl⟩
  have n0 : 0 ≤ R0 := by rw [← r0]; exact Int.emod_nonneg _ (by omega)
  have g0 : R0 < m * P := by rw [← r0]; exact Int.emod_lt_of_pos _ D0
  have w0 : Word q0 := by
    obtain ⟨_, _⟩ := wt t0 (by simp)
    rw [← e0]
    exact ⟨Int.ediv_nonneg (by omega) (by omega), Int.ediv_lt_of_lt_mul D0 (by omega)⟩
  have y0 : t0 + 18446744073709551616 * R1 = m * P * q0 + R0 := by
    have := Int.emod_add_mul_ediv (t0 + 18446744073709551616 * R1) (m * P)
    rw [e0, r0] at this
    omega
  have H7 : val [t7, t8] = m * P * val [] + R7 := by rw [r7]; simp [val]
  have H6 : val [t6, t7, t8] = m * P * val [q6] + R6 := horner H7 rfl y6
  have H5 : val [t5, t6, t7, t8] = m * P * val [q5, q6] + R5 := horner H6 rfl y5
  have H4 : val [t4, t5, t6, t7, t8] = m * P * val [q4, q5, q6] + R4 := horner H5 rfl y4
  have H3 : val [t3, t4, t5, t6, t7, t8] = m * P * val [q3, q4, q5, q6] + R3 := horner H4 rfl y3
  have H2 : val [t2, t3, t4, t5, t6, t7, t8] = m * P * val [q2, q3, q4, q5, q6] + R2 := horner H3 rfl y2
  have H1 : val [t1, t2, t3, t4, t5, t6, t7, t8] = m * P * val [q1, q2, q3, q4, q5, q6] + R1 := horner H2 rfl y1
  have H0 : val [t0, t1, t2, t3, t4, t5, t6, t7, t8] = m * P * val [q0, q1, q2, q3, q4, q5, q6] + R0 := horner H1 rfl y0
  rw [vt] at H0
  obtain ⟨f1, f2⟩ := fin_div (by omega) mu3 H0 rfl n0 g0
  have C := fun w => divide_2 hm (by omega) (by omega) eL (by omega) s0 s1 lz eD hn vD d1 wt li r7 g7 e6 r6 e5 r5 e4 r4 e3 r3 e2 r2 e1 r1 e0 r0 w
  refine ⟨q0, q1, q2, q3, q4, q5, q6, 0, ?_, ?_, ?_⟩
  · intro x hx
    simp only [List.mem_cons, List.not_mem_nil, or_false] at hx
    rcases hx with rfl | rfl | rfl | rfl | rfl | rfl | rfl | rfl <;> assumption
  · rw [f1]; simp [val]
  · intro w
    have c := C w
    unfold downN at c
    rw [hP, ← f2] at c
    exact c

theorem divide_any_3 {x0 x1 x2 x3 x4 x5 x6 x7 m0 m1 m2 : Int} (h0 : Word x0) (h1 : Word x1) (h2 : Word x2) (h3 : Word x3) (h4 : Word x4) (h5 : Word x5) (h6 : Word x6) (h7 : Word x7) (k0 : Word m0) (k1 : Word m1) (k2 : Word m2) (hz : m2 ≠ 0) :
    ∃ q0 q1 q2 q3 q4 q5 q6 q7 : Int, Words [q0, q1, q2, q3, q4, q5, q6, q7] ∧ val [q0, q1, q2, q3, q4, q5, q6, q7] = val [x0, x1, x2, x3, x4, x5, x6, x7] / num m0 m1 m2 0 ∧ ∀ w : World,
    Calls Try.prog 41 #[.agg #[.int .u64 x0, .int .u64 x1, .int .u64 x2, .int .u64 x3, .int .u64 x4, .int .u64 x5, .int .u64 x6, .int .u64 x7], .agg #[.int .u64 (l0 (num m0 m1 m2 0)), .int .u64 (l1 (num m0 m1 m2 0)), .int .u64 (l2 (num m0 m1 m2 0)), .int .u64 (l3 (num m0 m1 m2 0))]] w fun e w' => e = .returned (.tuple #[.agg #[.int .u64 q0, .int .u64 q1, .int .u64 q2, .int .u64 q3, .int .u64 q4, .int .u64 q5, .int .u64 q6, .int .u64 q7], .agg #[.int .u64 (l0 (val [x0, x1, x2, x3, x4, x5, x6, x7] % num m0 m1 m2 0)), .int .u64 (l1 (val [x0, x1, x2, x3, x4, x5, x6, x7] % num m0 m1 m2 0)), .int .u64 (l2 (val [x0, x1, x2, x3, x4, x5, x6, x7] % num m0 m1 m2 0)), .int .u64 (l3 (val [x0, x1, x2, x3, x4, x5, x6, x7] % num m0 m1 m2 0))]]) ∧ Below w.heap.size w w' := by
  obtain ⟨b, eb, b1, bl, bh⟩ := len_limb k2 hz
  have z : Word 0 := ⟨by decide, by decide⟩
  have hm : Num (num m0 m1 m2 0) := num_Num k0 k1 k2 z
  have el : l2 (num m0 m1 m2 0) = m2 := l2_num k0 k1 k2
  have eL := len_num_2 k0 k1 bl bh
  obtain ⟨p1, p2⟩ := pow_63 b1
  have s0 : 0 ≤ 63 - (b : Int) := by omega
  have s1 : 63 - (b : Int) ≤ 63 := by omega
  have lz : ∀ w, Calls Try.prog 51 #[.int .u64 (l2 (num m0 m1 m2 0))] w fun e w' => e = .returned (.int .i64 (63 - (b : Int))) ∧ w' = w := by
    intro w
    rw [el]
    have r := Try.bits_LeadingZeros64 m2 w k2.1 (by have := k2.2; omega)
    rw [eb, show (64 : Int) - ((b : Int) + 1) = 63 - (b : Int) by omega] at r
    exact r
  obtain ⟨_, p0, _⟩ := pow_pair s0 s1
  have mu1 : (num m0 m1 m2 0) < 340282366920938463463374607431768211456 * (m2 + 1) := by unfold num Word at *; omega
  have mu2 : 340282366920938463463374607431768211456 * m2 ≤ (num m0 m1 m2 0) := by unfold num Word at *; omega
  have mu3 : 0 < (num m0 m1 m2 0) := by have := k2.1; omega
  obtain ⟨t0, t1, t2, t3, t4, t5, t6, t7, t8, wt, vt, li⟩ := lift_any h0 h1 h2 h3 h4 h5 h6 h7 s0 s1
  have wx : Words [x0, x1, x2, x3, x4, x5, x6, x7] := by
    intro x hx
    simp only [List.mem_cons, List.not_mem_nil, or_false] at hx
    rcases hx with rfl | rfl | rfl | rfl | rfl | rfl | rfl | rfl <;> assumption
  have vx := val_nonneg wx
  rw [show ([x0, x1, x2, x3, x4, x5, x6, x7] : List Int).length = 8 from rfl, show (18446744073709551616 : Int) ^ 8 = 13407807929942597099574024998205846127479365820592393377723561443721764030073546976801874298166903427690031858186486050853753882811946569946433649006084096 by decide] at vx
  generalize hP : (2 : Int) ^ (63 - (b : Int)).toNat = P at *
  generalize hmm : (num m0 m1 m2 0) = m at *
  -- the divisor, moved up
  have d1 : m * P < 6277101735386680763835789423207666416102355444464034512896 := by
    have a : m * P < (340282366920938463463374607431768211456 * 2 ^ (b + 1)) * P := Int.mul_lt_mul_of_pos_right (by omega) (by omega)
    rw [Int.mul_assoc, p2] at a
    omega
  have d2 : 3138550867693340381917894711603833208051177722232017256448 ≤ m * P := by
    have a : (340282366920938463463374607431768211456 * 2 ^ b) * P ≤ m * P := Int.mul_le_mul_of_nonneg_right (by omega) (by omega)
    rw [Int.mul_assoc, p1] at a
    omega
  have eD : upN m (63 - (b : Int)) = m * P := by
    unfold upN
    rw [hP]
    exact Int.emod_eq_of_lt (by omega) (by omega)
  have hn : 9223372036854775808 ≤ l2 (m * P) := by unfold l2; omega
  have vD : val [(l0 (m * P)), (l1 (m * P)), (l2 (m * P))] = m * P := by
    simp only [val]; unfold l0 l1 l2; omega
  have D0 : 0 < m * P := by omega
  have wlo := val_nonneg (l := [t0, t1, t2, t3, t4, t5]) (fun x hx => wt x (by simp only [List.mem_cons] at *; simp at hx; rcases hx with rfl | rfl | rfl | rfl | rfl | rfl <;> simp))
  have whi := val_nonneg (l := [t6, t7, t8]) (fun x hx => wt x (List.mem_of_mem_drop (show x ∈ [t0, t1, t2, t3, t4, t5, t6, t7, t8].drop 6 from hx)))
  have vsplit : val [t0, t1, t2, t3, t4, t5, t6, t7, t8] = val [t0, t1, t2, t3, t4, t5] + 39402006196394479212279040100143613805079739270465446667948293404245721771497210611414266254884915640806627990306816 * val [t6, t7, t8] := by simp only [val]; omega
  have gtop : val [t6, t7, t8] < m * P := by
    have a : val [t0, t1, t2, t3, t4, t5, t6, t7, t8] < 13407807929942597099574024998205846127479365820592393377723561443721764030073546976801874298166903427690031858186486050853753882811946569946433649006084096 * P := by rw [vt]; exact Int.mul_lt_mul_of_pos_right vx.2 (by omega)
    have h : val [t6, t7, t8] < 340282366920938463463374607431768211456 * P := top_lt (V := val [t0, t1, t2, t3, t4, t5, t6, t7, t8]) (c := 39402006196394479212279040100143613805079739270465446667948293404245721771497210611414266254884915640806627990306816) (d := 340282366920938463463374607431768211456) (by omega) wlo.1 vsplit (by decide) (by rw [← Int.mul_assoc]; simpa using a)
    have i : 340282366920938463463374607431768211456 * P ≤ 3138550867693340381917894711603833208051177722232017256448 := by
      have : P ≤ 9223372036854775808 := by
        rw [← p1]
        have q : (1 : Int) ≤ 2 ^ b := Int.pow_pos (by decide)
        have := Int.mul_le_mul_of_nonneg_right q (show 0 ≤ P by omega)
        omega
      omega
    omega
  obtain ⟨R6, r6⟩ : ∃ R, val [t6, t7, t8] = R := ⟨_, rfl⟩
  rw [r6] at gtop whi
  have g6 := gtop
  have n6 := whi.1
  obtain ⟨q5, e5⟩ : ∃ q, (t5 + 18446744073709551616 * R6) / (m * P) = q := ⟨_, rfl⟩
  obtain ⟨R5, r5⟩ : ∃ R, (t5 + 18446744073709551616 * R6) % (m * P) = R := ⟨_, rfl⟩
  have n5 : 0 ≤ R5 := by rw [← r5]; exact Int.emod_nonneg _ (by omega)
  have g5 : R5 < m * P := by rw [← r5]; exact Int.emod_lt_of_pos _ D0
  have w5 : Word q5 := by
    obtain ⟨_, _⟩ := wt t5 (by simp)
    rw [← e5]
    exact ⟨Int.ediv_nonneg (by omega) (by omega), Int.ediv_lt_of_lt_mul D0 (by omega)⟩
  have y5 : t5 + 18446744073709551616 * R6 = m * P * q5 + R5 := by
    have := Int.emod_add_mul_ediv (t5 + 18446744073709551616 * R6) (m * P)
    rw [e5, r5] at this
    omega
  obtain ⟨q4, e4⟩ : ∃ q, (t4 + 18446744073709551616 * R5) / (m * P) = q := ⟨_, rfl⟩
  obtain ⟨R4, r4⟩ : ∃ R, (t4 + 18446744073709551616 * R5) % (m * P) = R := ⟨_, rfl⟩
  have n4 : 0 ≤ R4 := by rw [← r4]; exact Int.emod_nonneg _ (by omega)
  have g4 : R4 < m * P := by rw [← r4]; exact Int.emod_lt_of_pos _ D0
  have w4 : Word q4 := by
    obtain ⟨_, _⟩ := wt t4 (by simp)
    rw [← e4]
    exact ⟨Int.ediv_nonneg (by omega) (by omega), Int.ediv_lt_of_lt_mul D0 (by omega)⟩
  have y4 : t4 + 18446744073709551616 * R5 = m * P * q4 + R4 := by
    have := Int.emod_add_mul_ediv (t4 + 18446744073709551616 * R5) (m * P)
    rw [e4, r4] at this
    omega
  obtain ⟨q3, e3⟩ : ∃ q, (t3 + 18446744073709551616 * R4) / (m * P) = q := ⟨_, rfl⟩
  obtain ⟨R3, r3⟩ : ∃ R, (t3 + 18446744073709551616 * R4) % (m * P) = R := ⟨_, rfl⟩
  have n3 : 0 ≤ R3 := by rw [← r3]; exact Int.emod_nonneg _ (by omega)
  have g3 : R3 < m * P := by rw [← r3]; exact Int.emod_lt_of_pos _ D0
  have w3 : Word q3 := by
    obtain ⟨_, _⟩ := wt t3 (by simp)
    rw [← e3]
    exact ⟨Int.ediv_nonneg (by omega) (by omega), Int.ediv_lt_of_lt_mul D0 (by omega)⟩
  have y3 : t3 + 18446744073709551616 * R4 = m * P * q3 + R3 := by
    have := Int.emod_add_mul_ediv (t3 + 18446744073709551616 * R4) (m * P)
    rw [e3, r3] at this
    omega
  obtain ⟨q2, e2⟩ : ∃ q, (t2 + 18446744073709551616 * R3) / (m * P) = q := ⟨_, rfl⟩
  obtain ⟨R2, r2⟩ : ∃ R, (t2 + 18446744073709551616 * R3) % (m * P) = R := ⟨_, rfl⟩
  have n2 : 0 ≤ R2 := by rw [← r2]; exact Int.emod_nonneg _ (by omega)
  have g2 : R2 < m * P := by rw [← r2]; exact Int.emod_lt_of_pos _ D0
  have w2 : Word q2 := by
    obtain ⟨_, _⟩ := wt t2 (by simp)
    rw [← e2]
    exact ⟨Int.ediv_nonneg (by omega) (by omega), Int.ediv_lt_of_lt_mul D0 (by omega)⟩
  have y2 : t2 + 18446744073709551616 * R3 = m * P * q2 + R2 := by
    have := Int.emod_add_mul_ediv (t2 + 18446744073709551616 * R3) (m * P)
    rw [e2, r2] at this
    omega
  obtain ⟨q1, e1⟩ : ∃ q, (t1 + 18446744073709551616 * R2) / (m * P) = q := ⟨_, rfl⟩
  obtain ⟨R1, r1⟩ : ∃ R, (t1 + 18446744073709551616 * R2) % (m * P) = R := ⟨_, rfl⟩
  have n1 : 0 ≤ R1 := by rw [← r1]; exact Int.emod_nonneg _ (by omega)
  have g1 : R1 < m * P := by rw [← r1]; exact Int.emod_lt_of_pos _ D0
  have w1 : Word q1 := by
    obtain ⟨_, _⟩ := wt t1 (by simp)
    rw [← e1]
    exact ⟨Int.ediv_nonneg (by omega) (by omega), Int.ediv_lt_of_lt_mul D0 (by omega)⟩
  have y1 : t1 + 18446744073709551616 * R2 = m * P * q1 + R1 := by
    have := Int.emod_add_mul_ediv (t1 + 18446744073709551616 * R2) (m * P)
    rw [e1, r1] at this
    omega
  obtain ⟨q0, e0⟩ : ∃ q, (t0 + 18446744073709551616 * R1) / (m * P) = q := ⟨_, rfl⟩
  obtain ⟨R0, r0⟩ : ∃ R, (t0 + 18446744073709551616 * R1) % (m * P) = R := ⟨_, rfl⟩
  have n0 : 0 ≤ R0 := by rw [← r0]; exact Int.emod_nonneg _ (by omega)
  have g0 : R0 < m * P := by rw [← r0]; exact Int.emod_lt_of_pos _ D0
  have w0 : Word q0 := by
    obtain ⟨_, _⟩ := wt t0 (by simp)
    rw [← e0]
    exact ⟨Int.ediv_nonneg (by omega) (by omega), Int.ediv_lt_of_lt_mul D0 (by omega)⟩
  have y0 : t0 + 18446744073709551616 * R1 = m * P * q0 + R0 := by
    have := Int.emod_add_mul_ediv (t0 + 18446744073709551616 * R1) (m * P)
    rw [e0, r0] at this
    omega
  have H6 : val [t6, t7, t8] = m * P * val [] + R6 := by rw [r6]; simp [val]
  have H5 : val [t5, t6, t7, t8] = m * P * val [q5] + R5 := horner H6 rfl y5
  have H4 : val [t4, t5, t6, t7, t8] = m * P * val [q4, q5] + R4 := horner H5 rfl y4
  have H3 : val [t3, t4, t5, t6, t7, t8] = m * P * val [q3, q4, q5] + R3 := horner H4 rfl y3
  have H2 : val [t2, t3, t4, t5, t6, t7, t8] = m * P * val [q2, q3, q4, q5] + R2 := horner H3 rfl y2
  have H1 : val [t1, t2, t3, t4, t5, t6, t7, t8] = m * P * val [q1, q2, q3, q4, q5] + R1 := horner H2 rfl y1
  have H0 : val [t0, t1, t2, t3, t4, t5, t6, t7, t8] = m * P * val [q0, q1, q2, q3, q4, q5] + R0 := horner H1 rfl y0
  rw [vt] at H0
  obtain ⟨f1, f2⟩ := fin_div (by omega) mu3 H0 rfl n0 g0
  have C := fun w => divide_3 hm (by omega) (by omega) eL (by omega) s0 s1 lz eD hn vD d1 wt li r6 g6 e5 r5 e4 r4 e3 r3 e2 r2 e1 r1 e0 r0 w
  refine ⟨q0, q1, q2, q3, q4, q5, 0, 0, ?_, ?_, ?_⟩
  · intro x hx
    simp only [List.mem_cons, List.not_mem_nil, or_false] at hx
    rcases hx with rfl | rfl | rfl | rfl | rfl | rfl | rfl | rfl <;> assumption
  · rw [f1]; simp [val]
  · intro w
    have c := C w
    unfold downN at c
    rw [hP, ← f2] at c
    exact c

theorem divide_any_4 {x0 x1 x2 x3 x4 x5 x6 x7 m0 m1 m2 m3 : Int} (h0 : Word x0) (h1 : Word x1) (h2 : Word x2) (h3 : Word x3) (h4 : Word x4) (h5 : Word x5) (h6 : Word x6) (h7 : Word x7) (k0 : Word m0) (k1 : Word m1) (k2 : Word m2) (k3 : Word m3) (hz : m3 ≠ 0) :
    ∃ q0 q1 q2 q3 q4 q5 q6 q7 : Int, Words [q0, q1, q2, q3, q4, q5, q6, q7] ∧ val [q0, q1, q2, q3, q4, q5, q6, q7] = val [x0, x1, x2, x3, x4, x5, x6, x7] / num m0 m1 m2 m3 ∧ ∀ w : World,
    Calls Try.prog 41 #[.agg #[.int .u64 x0, .int .u64 x1, .int .u64 x2, .int .u64 x3, .int .u64 x4, .int .u64 x5, .int .u64 x6, .int .u64 x7], .agg #[.int .u64 (l0 (num m0 m1 m2 m3)), .int .u64 (l1 (num m0 m1 m2 m3)), .int .u64 (l2 (num m0 m1 m2 m3)), .int .u64 (l3 (num m0 m1 m2 m3))]] w fun e w' => e = .returned (.tuple #[.agg #[.int .u64 q0, .int .u64 q1, .int .u64 q2, .int .u64 q3, .int .u64 q4, .int .u64 q5, .int .u64 q6, .int .u64 q7], .agg #[.int .u64 (l0 (val [x0, x1, x2, x3, x4, x5, x6, x7] % num m0 m1 m2 m3)), .int .u64 (l1 (val [x0, x1, x2, x3, x4, x5, x6, x7] % num m0 m1 m2 m3)), .int .u64 (l2 (val [x0, x1, x2, x3, x4, x5, x6, x7] % num m0 m1 m2 m3)), .int .u64 (l3 (val [x0, x1, x2, x3, x4, x5, x6, x7] % num m0 m1 m2 m3))]]) ∧ Below w.heap.size w w' := by
  obtain ⟨b, eb, b1, bl, bh⟩ := len_limb k3 hz
  have z : Word 0 := ⟨by decide, by decide⟩
  have hm : Num (num m0 m1 m2 m3) := num_Num k0 k1 k2 k3
  have el : l3 (num m0 m1 m2 m3) = m3 := l3_num k0 k1 k2 k3
  have eL := len_num_3 k0 k1 k2 bl bh
  obtain ⟨p1, p2⟩ := pow_63 b1
  have s0 : 0 ≤ 63 - (b : Int) := by omega
  have s1 : 63 - (b : Int) ≤ 63 := by omega
  have lz : ∀ w, Calls Try.prog 51 #[.int .u64 (l3 (num m0 m1 m2 m3))] w fun e w' => e = .returned (.int .i64 (63 - (b : Int))) ∧ w' = w := by
    intro w
    rw [el]
    have r := Try.bits_LeadingZeros64 m3 w k3.1 (by have := k3.2; omega)
    rw [eb, show (64 : Int) - ((b : Int) + 1) = 63 - (b : Int) by omega] at r
    exact r
  obtain ⟨_, p0, _⟩ := pow_pair s0 s1
  have mu1 : (num m0 m1 m2 m3) < 6277101735386680763835789423207666416102355444464034512896 * (m3 + 1) := by unfold num Word at *; omega
  have mu2 : 6277101735386680763835789423207666416102355444464034512896 * m3 ≤ (num m0 m1 m2 m3) := by unfold num Word at *; omega
  have mu3 : 0 < (num m0 m1 m2 m3) := by have := k3.1; omega
  obtain ⟨t0, t1, t2, t3, t4, t5, t6, t7, t8, wt, vt, li⟩ := lift_any h0 h1 h2 h3 h4 h5 h6 h7 s0 s1
  have wx : Words [x0, x1, x2, x3, x4, x5, x6, x7] := by
    intro x hx
    simp only [List.mem_cons, List.not_mem_nil, or_false] at hx
    rcases hx with rfl | rfl | rfl | rfl | rfl | rfl | rfl | rfl <;> assumption
  have vx := val_nonneg wx
  rw [show ([x0, x1, x2, x3, x4, x5, x6, x7] : List Int).length = 8 from rfl, show (18446744073709551616 : Int) ^ 8 = 13407807929942597099574024998205846127479365820592393377723561443721764030073546976801874298166903427690031858186486050853753882811946569946433649006084096 by decide] at vx
  generalize hP : (2 : Int) ^ (63 - (b : Int)).toNat = P at *
  generalize hmm : (num m0 m1 m2 m3) = m at *
  -- the divisor, moved up
  have d1 : m * P < 115792089237316195423570985008687907853269984665640564039457584007913129639936 := by
    have a : m * P < (6277101735386680763835789423207666416102355444464034512896 * 2 ^ (b + 1)) * P := Int.mul_lt_mul_of_pos_right (by omega) (by omega)
    rw [Int.mul_assoc, p2] at a
    omega
  have d2 : 57896044618658097711785492504343953926634992332820282019728792003956564819968 ≤ m * P := by
    have a : (6277101735386680763835789423207666416102355444464034512896 * 2 ^ b) * P ≤ m * P := Int.mul_le_mul_of_nonneg_right (by omega) (by omega)
    rw [Int.mul_assoc, p1] at a
    omega
  have eD : upN m (63 - (b : Int)) = m * P := by
    unfold upN
    rw [hP]
    exact Int.emod_eq_of_lt (by omega) (by omega)
  have hn : 9223372036854775808 ≤ l3 (m * P) := by unfold l3; omega
  have vD : val [(l0 (m * P)), (l1 (m * P)), (l2 (m * P)), (l3 (m * P))] = m * P := by
    simp only [val]; unfold l0 l1 l2 l3; omega
  have D0 : 0 < m * P := by omega
  have wlo := val_nonneg (l := [t0, t1, t2, t3, t4]) (fun x hx => wt x (by simp only [List.mem_cons] at *; simp at hx; rcases hx with rfl | rfl | rfl | rfl | rfl <;> simp))
  have whi := val_nonneg (l := [t5, t6, t7, t8]) (fun x hx => wt x (List.mem_of_mem_drop (show x ∈ [t0, t1, t2, t3, t4, t5, t6, t7, t8].drop 5 from hx)))
  have vsplit : val [t0, t1, t2, t3, t4, t5, t6, t7, t8] = val [t0, t1, t2, t3, t4] + 2135987035920910082395021706169552114602704522356652769947041607822219725780640550022962086936576 * val [t5, t6, t7, t8] := by simp only [val]; omega
  have gtop : val [t5, t6, t7, t8] < m * P := by
    have a : val [t0, t1, t2, t3, t4, t5, t6, t7, t8] < 13407807929942597099574024998205846127479365820592393377723561443721764030073546976801874298166903427690031858186486050853753882811946569946433649006084096 * P := by rw [vt]; exact Int.mul_lt_mul_of_pos_right vx.2 (by omega)
    have h : val [t5, t6, t7, t8] < 6277101735386680763835789423207666416102355444464034512896 * P := top_lt (V := val [t0, t1, t2, t3, t4, t5, t6, t7, t8]) (c := 2135987035920910082395021706169552114602704522356652769947041607822219725780640550022962086936576) (d := 6277101735386680763835789423207666416102355444464034512896) (by omega) wlo.1 vsplit (by decide) (by rw [← Int.mul_assoc]; simpa using a)
    have i : 6277101735386680763835789423207666416102355444464034512896 * P ≤ 57896044618658097711785492504343953926634992332820282019728792003956564819968 := by
      have : P ≤ 9223372036854775808 := by
        rw [← p1]
        have q : (1 : Int) ≤ 2 ^ b := Int.pow_pos (by decide)
        have := Int.mul_le_mul_of_nonneg_right q (show 0 ≤ P by omega)
        omega
      omega
    omega
  obtain ⟨R5, r5⟩ : ∃ R, val [t5, t6, t7, t8] = R := ⟨_, rfl⟩
  rw [r5] at gtop whi
  have g5 := gtop
  have n5 := whi.1
  obtain ⟨q4, e4⟩ : ∃ q, (t4 + 18446744073709551616 * R5) / (m * P) = q := ⟨_, rfl⟩
  obtain ⟨R4, r4⟩ : ∃ R, (t4 + 18446744073709551616 * R5) % (m * P) = R := ⟨_, rfl⟩
  have n4 : 0 ≤ R4 := by rw [← r4]; exact Int.emod_nonneg _ (by omega)
  have g4 : R4 < m * P := by rw [← r4]; exact Int.emod_lt_of_pos _ D0
  have w4 : Word q4 := by
    obtain ⟨_, _⟩ := wt t4 (by simp)
    rw [← e4]
    exact ⟨Int.ediv_nonneg (by omega) (by omega), Int.ediv_lt_of_lt_mul D0 (by omega)⟩
  have y4 : t4 + 18446744073709551616 * R5 = m * P * q4 + R4 := by
    have := Int.emod_add_mul_ediv (t4 + 18446744073709551616 * R5) (m * P)
    rw [e4, r4] at this
    omega
  obtain ⟨q3, e3⟩ : ∃ q, (t3 + 18446744073709551616 * R4) / (m * P) = q := ⟨_, rfl⟩
  obtain ⟨R3, r3⟩ : ∃ R, (t3 + 18446744073709551616 * R4) % (m * P) = R := ⟨_, rfl⟩
  have n3 : 0 ≤ R3 := by rw [← r3]; exact Int.emod_nonneg _ (by omega)
  have g3 : R3 < m * P := by rw [← r3]; exact Int.emod_lt_of_pos _ D0
  have w3 : Word q3 := by
    obtain ⟨_, _⟩ := wt t3 (by simp)
    rw [← e3]
    exact ⟨Int.ediv_nonneg (by omega) (by omega), Int.ediv_lt_of_lt_mul D0 (by omega)⟩
  have y3 : t3 + 18446744073709551616 * R4 = m * P * q3 + R3 := by
    have := Int.emod_add_mul_ediv (t3 + 18446744073709551616 * R4) (m * P)
    rw [e3, r3] at this
    omega
  obtain ⟨q2, e2⟩ : ∃ q, (t2 + 18446744073709551616 * R3) / (m * P) = q := ⟨_, rfl⟩
  obtain ⟨R2, r2⟩ : ∃ R, (t2 + 18446744073709551616 * R3) % (m * P) = R := ⟨_, rfl⟩
  have n2 : 0 ≤ R2 := by rw [← r2]; exact Int.emod_nonneg _ (by omega)
  have g2 : R2 < m * P := by rw [← r2]; exact Int.emod_lt_of_pos _ D0
  have w2 : Word q2 := by
    obtain ⟨_, _⟩ := wt t2 (by simp)
    rw [← e2]
    exact ⟨Int.ediv_nonneg (by omega) (by omega), Int.ediv_lt_of_lt_mul D0 (by omega)⟩
  have y2 : t2 + 18446744073709551616 * R3 = m * P * q2 + R2 := by
    have := Int.emod_add_mul_ediv (t2 + 18446744073709551616 * R3) (m * P)
    rw [e2, r2] at this
    omega
  obtain ⟨q1, e1⟩ : ∃ q, (t1 + 18446744073709551616 * R2) / (m * P) = q := ⟨_, rfl⟩
  obtain ⟨R1, r1⟩ : ∃ R, (t1 + 18446744073709551616 * R2) % (m * P) = R := ⟨_, rfl⟩
  have n1 : 0 ≤ R1 := by rw [← r1]; exact Int.emod_nonneg _ (by omega)
  have g1 : R1 < m * P := by rw [← r1]; exact Int.emod_lt_of_pos _ D0
  have w1 : Word q1 := by
    obtain ⟨_, _⟩ := wt t1 (by simp)
    rw [← e1]
    exact ⟨Int.ediv_nonneg (by omega) (by omega), Int.ediv_lt_of_lt_mul D0 (by omega)⟩
  have y1 : t1 + 18446744073709551616 * R2 = m * P * q1 + R1 := by
    have := Int.emod_add_mul_ediv (t1 + 18446744073709551616 * R2) (m * P)
    rw [e1, r1] at this
    omega
  obtain ⟨q0, e0⟩ : ∃ q, (t0 + 18446744073709551616 * R1) / (m * P) = q := ⟨_, rfl⟩
  obtain ⟨R0, r0⟩ : ∃ R, (t0 + 18446744073709551616 * R1) % (m * P) = R := ⟨_, rfl⟩
  have n0 : 0 ≤ R0 := by rw [← r0]; exact Int.emod_nonneg _ (by omega)
  have g0 : R0 < m * P := by rw [← r0]; exact Int.emod_lt_of_pos _ D0
  have w0 : Word q0 := by
    obtain ⟨_, _⟩ := wt t0 (by simp)
    rw [← e0]
    exact ⟨Int.ediv_nonneg (by omega) (by omega), Int.ediv_lt_of_lt_mul D0 (by omega)⟩
  have y0 : t0 + 18446744073709551616 * R1 = m * P * q0 + R0 := by
    have := Int.emod_add_mul_ediv (t0 + 18446744073709551616 * R1) (m * P)
    rw [e0, r0] at this
    omega
  have H5 : val [t5, t6, t7, t8] = m * P * val [] + R5 := by rw [r5]; simp [val]
  have H4 : val [t4, t5, t6, t7, t8] = m * P * val [q4] + R4 := horner H5 rfl y4
  have H3 : val [t3, t4, t5, t6, t7, t8] = m * P * val [q3, q4] + R3 := horner H4 rfl y3
  have H2 : val [t2, t3, t4, t5, t6, t7, t8] = m * P * val [q2, q3, q4] + R2 := horner H3 rfl y2
  have H1 : val [t1, t2, t3, t4, t5, t6, t7, t8] = m * P * val [q1, q2, q3, q4] + R1 := horner H2 rfl y1
  have H0 : val [t0, t1, t2, t3, t4, t5, t6, t7, t8] = m * P * val [q0, q1, q2, q3, q4] + R0 := horner H1 rfl y0
  rw [vt] at H0
  obtain ⟨f1, f2⟩ := fin_div (by omega) mu3 H0 rfl n0 g0
  have C := fun w => divide_4 hm (by omega) (by omega) eL (by omega) s0 s1 lz eD hn vD d1 wt li r5 g5 e4 r4 e3 r3 e2 r2 e1 r1 e0 r0 w
  refine ⟨q0, q1, q2, q3, q4, 0, 0, 0, ?_, ?_, ?_⟩
  · intro x hx
    simp only [List.mem_cons, List.not_mem_nil, or_false] at hx
    rcases hx with rfl | rfl | rfl | rfl | rfl | rfl | rfl | rfl <;> assumption
  · rw [f1]; simp [val]
  · intro w
    have c := C w
    unfold downN at c
    rw [hP, ← f2] at c
    exact c

/-- The quotient and the rest of a number of eight limbs. -/
theorem divide_any {x0 x1 x2 x3 x4 x5 x6 x7 m : Int} (h0 : Word x0) (h1 : Word x1) (h2 : Word x2) (h3 : Word x3) (h4 : Word x4) (h5 : Word x5) (h6 : Word x6) (h7 : Word x7) (hm : Num m) (hz : m ≠ 0) :
    ∃ q0 q1 q2 q3 q4 q5 q6 q7 : Int, Words [q0, q1, q2, q3, q4, q5, q6, q7] ∧ val [q0, q1, q2, q3, q4, q5, q6, q7] = val [x0, x1, x2, x3, x4, x5, x6, x7] / m ∧ ∀ w : World,
    Calls Try.prog 41 #[.agg #[.int .u64 x0, .int .u64 x1, .int .u64 x2, .int .u64 x3, .int .u64 x4, .int .u64 x5, .int .u64 x6, .int .u64 x7], .agg #[.int .u64 (l0 m), .int .u64 (l1 m), .int .u64 (l2 m), .int .u64 (l3 m)]] w fun e w' => e = .returned (.tuple #[.agg #[.int .u64 q0, .int .u64 q1, .int .u64 q2, .int .u64 q3, .int .u64 q4, .int .u64 q5, .int .u64 q6, .int .u64 q7], .agg #[.int .u64 (l0 (val [x0, x1, x2, x3, x4, x5, x6, x7] % m)), .int .u64 (l1 (val [x0, x1, x2, x3, x4, x5, x6, x7] % m)), .int .u64 (l2 (val [x0, x1, x2, x3, x4, x5, x6, x7] % m)), .int .u64 (l3 (val [x0, x1, x2, x3, x4, x5, x6, x7] % m))]]) ∧ Below w.heap.size w w' := by
  have k0 := l0_word m; have k1 := l1_word m; have k2 := l2_word m; have k3 := l3_word m
  have en := num_l hm
  rw [← en] at hz ⊢
  generalize l0 m = m0 at *; generalize l1 m = m1 at *; generalize l2 m = m2 at *; generalize l3 m = m3 at *
  clear en hm
  by_cases z3 : m3 = 0
  · subst z3
    by_cases z2 : m2 = 0
    · subst z2
      by_cases z1 : m1 = 0
      · subst z1
        exact divide_any_1 h0 h1 h2 h3 h4 h5 h6 h7 k0 (fun h => hz (by rw [h]; decide))
      · exact divide_any_2 h0 h1 h2 h3 h4 h5 h6 h7 k0 k1 z1
    · exact divide_any_3 h0 h1 h2 h3 h4 h5 h6 h7 k0 k1 k2 z2
  · exact divide_any_4 h0 h1 h2 h3 h4 h5 h6 h7 k0 k1 k2 k3 z3

end Go.Proofs.Ytmegdnalpaddmaa
