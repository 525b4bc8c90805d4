import Derived.Test.YtdkfpakghpbofaaMulNum
/- One digit of a long division, guessed from the top half of the divisor (32-bit halves). -/
namespace Go.Proofs.Ytdkfpakghpbofaa

/-- What holds of the guess q and its rest r, at every round. -/
structure Guess (un u y y1 y0 q r : Int) : Prop where
  q0 : 0 ≤ q
  q1 : q ≤ 4294967297
  r0 : 0 ≤ r
  r1 : r < 4294967296
  e : q * y1 + r = un
  hi : un * 4294967296 + u < (q + 1) * y

structure Halves (un u y y1 y0 : Int) : Prop where
  e : y = y1 * 4294967296 + y0
  a0 : 0 ≤ y0
  a1 : y0 < 4294967296
  b0 : 2147483648 ≤ y1
  b1 : y1 < 4294967296
  n0 : 0 ≤ un
  n1 : un < y
  u0 : 0 ≤ u
  u1 : u < 4294967296

theorem Guess.first {un u y y1 y0 : Int} (H : Halves un u y y1 y0) : Guess un u y y1 y0 (un / y1) (un - un / y1 * y1) := by
  obtain ⟨e, a0, a1, b0, b1, n0, n1, u0, u1⟩ := H
  have d := Int.emod_add_mul_ediv un y1
  have m0 := Int.emod_nonneg un (show y1 ≠ 0 by omega)
  have m1 := Int.emod_lt_of_pos un (show 0 < y1 by omega)
  have q0 : 0 ≤ un / y1 := Int.ediv_nonneg n0 (by omega)
  have q1 : un / y1 < 4294967298 := Int.ediv_lt_of_lt_mul (by omega) (by omega)
  generalize un / y1 = q at *
  generalize un % y1 = m at *
  rw [Int.mul_comm] at d
  generalize hp : q * y1 = p at *
  refine ⟨q0, by omega, by omega, by omega, by rw [hp]; omega, ?_⟩
  rw [e, Int.mul_add, ← Int.mul_assoc, Int.add_mul, hp, Int.one_mul]
  have : 0 ≤ (q + 1) * y0 := Int.mul_nonneg (by omega) a0
  omega

/-- The test: the guess is too great just if it fails. -/
theorem Guess.test {un u y y1 y0 q r : Int} (H : Halves un u y y1 y0) (G : Guess un u y y1 y0 q r) : (q * y0 ≤ 4294967296 * r + u → q * y ≤ un * 4294967296 + u) ∧ (4294967296 * r + u < q * y0 → un * 4294967296 + u < q * y) := by
  obtain ⟨e, a0, a1, b0, b1, n0, n1, u0, u1⟩ := H
  obtain ⟨q0, q1, r0, r1, g, hi⟩ := G
  rw [e, Int.mul_add, ← Int.mul_assoc]
  generalize q * y1 = p at *
  generalize q * y0 = s at *
  omega

/-- The guess is the digit. -/
theorem digit_of {U y q : Int} (_hy : 0 < y) (h0 : q * y ≤ U) (h1 : U < (q + 1) * y) : U / y = q ∧ U % y = U - q * y := by
  have h := (Int.ediv_emod_unique (a := U) (b := y) (r := U - q * y) (q := q) (by omega)).2 ⟨by rw [Int.mul_comm y q]; omega, by omega, by rw [Int.add_mul, Int.one_mul] at h1; omega⟩
  exact h

/-- Out of the loop by its test. -/
theorem Guess.out {un u y y1 y0 q r : Int} (H : Halves un u y y1 y0) (G : Guess un u y y1 y0 q r) (t : q * y0 ≤ 4294967296 * r + u) : (un * 4294967296 + u) / y = q ∧ (un * 4294967296 + u) % y = un * 4294967296 + u - q * y :=
  digit_of (by obtain ⟨e, a0, a1, b0, b1, n0, n1, u0, u1⟩ := H; omega) ((G.test H).1 t) G.hi

end Go.Proofs.Ytdkfpakghpbofaa
