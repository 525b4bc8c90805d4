import Derived.Test.YtkbmonlbgnnjlaaDoorNum
/- Long division, limb by limb: the numbers of lists of limbs. -/
namespace Go.Proofs.YtkbmonlbgnnjlaaDoor

def val : List Int → Int
  | [] => 0
  | x :: xs => x + 18446744073709551616 * val xs
def Words (l : List Int) : Prop := ∀ x ∈ l, Word x

end Go.Proofs.YtkbmonlbgnnjlaaDoor

namespace Go.Proofs.YtkbmonlbgnnjlaaDoor

/-- What holds of a digit and of what is left, while it is put right. -/
structure Digit (U D p : Int) (len : Nat) (vs : List Int) (q b : Int) : Prop where
  ln : vs.length = len
  words : Words vs
  b0 : 0 ≤ b
  b1 : b ≤ 1
  wq : Word q
  e : val vs - p * b = U - q * D
  hi : U < (q + 1) * D

end Go.Proofs.YtkbmonlbgnnjlaaDoor

/- One digit of a long division, guessed from the top half of the divisor (32-bit halves). -/
namespace Go.Proofs.YtkbmonlbgnnjlaaDoor

/-- What holds of the guess q and its rest r, at every round. -/
structure Guess (un u y y1 y0 q r : Int) : Prop where
  q0 : 0 ≤ q
  q1 : q ≤ 4294967297
  r0 : 0 ≤ r
  r1 : r < 4294967296
  e : q * y1 + r = un
  hi : un * 4294967296 + u < (q + 1) * y

structure Halves (un u y y1 y0 : Int) : Prop where
  e : y = y1 * 4294967296 + y0
  a0 : 0 ≤ y0
  a1 : y0 < 4294967296
  b0 : 2147483648 ≤ y1
  b1 : y1 < 4294967296
  n0 : 0 ≤ un
  n1 : un < y
  u0 : 0 ≤ u
  u1 : u < 4294967296

theorem Guess.first {un u y y1 y0 : Int} (H : Halves un u y y1 y0) : Guess un u y y1 y0 (un / y1) (un - un / y1 * y1) := by
  obtain ⟨e, a0, a1, b0, b1, n0, n1, u0, u1⟩ := H
  have d := Int.emod_add_mul_ediv un y1
  have m0 := Int.emod_nonneg un (show y1 ≠ 0 by omega)
  have m1 := Int.emod_lt_of_pos un (show 0 < y1 by omega)
  have q0 : 0 ≤ un / y1 := Int.ediv_nonneg n0 (by omega)
  have q1 : un / y1 < 4294967298 := Int.ediv_lt_of_lt_mul (by omega) (by omega)
  generalize un / y1 = q at *
  generalize un % y1 = m at *
  rw [Int.mul_comm] at d
  generalize hp : q * y1 = p at *
  refine ⟨q0, by omega, by omega, by omega, by rw [hp]; omega, ?_⟩
  rw [e, Int.mul_add, ← Int.mul_assoc, Int.add_mul, hp, Int.one_mul]
  have : 0 ≤ (q + 1) * y0 := Int.mul_nonneg (by omega) a0
  omega

/-- The test: the guess is too great just if it fails. -/
theorem Guess.test {un u y y1 y0 q r : Int} (H : Halves un u y y1 y0) (G : Guess un u y y1 y0 q r) : (q * y0 ≤ 4294967296 * r + u → q * y ≤ un * 4294967296 + u) ∧ (4294967296 * r + u < q * y0 → un * 4294967296 + u < q * y) := by
  obtain ⟨e, a0, a1, b0, b1, n0, n1, u0, u1⟩ := H
  obtain ⟨q0, q1, r0, r1, g, hi⟩ := G
  rw [e, Int.mul_add, ← Int.mul_assoc]
  generalize q * y1 = p at *
  generalize q * y0 = s at *
  omega

/-- One lower. -/
theorem Guess.down {un u y y1 y0 q r : Int} (H : Halves un u y y1 y0) (G : Guess un u y y1 y0 q r) (t : 4294967296 ≤ q ∨ 4294967296 * r + u < q * y0) :
    0 < q ∧ q - 1 ≤ 4294967296 ∧ (q - 1) * y1 + (r + y1) = un ∧ un * 4294967296 + u < (q - 1 + 1) * y := by
  have T := (G.test H).2
  obtain ⟨e, a0, a1, b0, b1, n0, n1, u0, u1⟩ := H
  obtain ⟨q0, q1, r0, r1, g, hi⟩ := G
  have hq : 0 < q := by
    rcases t with t | t
    · omega
    · rcases Int.lt_or_eq_of_le q0 with h | h
      · exact h
      · rw [← h] at t; omega
  refine ⟨hq, by omega, ?_, ?_⟩
  · rw [Int.sub_mul, Int.one_mul]; omega
  · rw [Int.sub_add_cancel]
    rcases t with t | t
    · have : 4294967296 * y ≤ q * y := Int.mul_le_mul_of_nonneg_right t (by omega)
      omega
    · exact T t

/-- The guess is the digit. -/
theorem digit_of {U y q : Int} (_hy : 0 < y) (h0 : q * y ≤ U) (h1 : U < (q + 1) * y) : U / y = q ∧ U % y = U - q * y := by
  have h := (Int.ediv_emod_unique (a := U) (b := y) (r := U - q * y) (q := q) (by omega)).2 ⟨by rw [Int.mul_comm y q]; omega, by omega, by rw [Int.add_mul, Int.one_mul] at h1; omega⟩
  exact h

/-- Out of the loop by its test. -/
theorem Guess.out {un u y y1 y0 q r : Int} (H : Halves un u y y1 y0) (G : Guess un u y y1 y0 q r) (t : q * y0 ≤ 4294967296 * r + u) : (un * 4294967296 + u) / y = q ∧ (un * 4294967296 + u) % y = un * 4294967296 + u - q * y :=
  digit_of (by obtain ⟨e, a0, a1, b0, b1, n0, n1, u0, u1⟩ := H; omega) ((G.test H).1 t) G.hi

/-- Out of the loop by the rest's size. -/
theorem Guess.leave {un u y y1 y0 q r : Int} (H : Halves un u y y1 y0) (G : Guess un u y y1 y0 q r) (t : 4294967296 ≤ q ∨ 4294967296 * r + u < q * y0) (h : 4294967296 ≤ r + y1) :
    (un * 4294967296 + u) / y = q - 1 ∧ (un * 4294967296 + u) % y = un * 4294967296 + u - (q - 1) * y := by
  obtain ⟨d0, d1, d2, d3⟩ := G.down H t
  obtain ⟨e, a0, a1, b0, b1, n0, n1, u0, u1⟩ := H
  refine digit_of (by omega) ?_ d3
  have s : (q - 1) * y0 ≤ 4294967296 * y0 := Int.mul_le_mul_of_nonneg_right d1 a0
  rw [e, Int.mul_add, ← Int.mul_assoc]
  generalize (q - 1) * y1 = p at *
  generalize (q - 1) * y0 = v at *
  omega

theorem Guess.next {un u y y1 y0 q r : Int} (H : Halves un u y y1 y0) (G : Guess un u y y1 y0 q r) (t : 4294967296 ≤ q ∨ 4294967296 * r + u < q * y0) (h : r + y1 < 4294967296) : Guess un u y y1 y0 (q - 1) (r + y1) := by
  obtain ⟨d0, d1, d2, d3⟩ := G.down H t
  obtain ⟨e, a0, a1, b0, b1, n0, n1, u0, u1⟩ := H
  exact ⟨by omega, by omega, by have := G.r0; omega, h, d2, d3⟩

end Go.Proofs.YtkbmonlbgnnjlaaDoor
