
/- Plain numbers: limbs of a number below 2^256. -/
namespace Go.Proofs.Ytahekhamhdfkdaa

/-- A limb. -/
def Word (x : Int) : Prop := 0 ≤ x ∧ x < 18446744073709551616

/-! ### The four limbs of a number, the number of four limbs -/
def l0 (n : Int) : Int := n % 18446744073709551616
def l1 (n : Int) : Int := n / 18446744073709551616 % 18446744073709551616
def l2 (n : Int) : Int := n / 340282366920938463463374607431768211456 % 18446744073709551616
def l3 (n : Int) : Int := n / 6277101735386680763835789423207666416102355444464034512896 % 18446744073709551616
/-- A number below 2^256. -/
def Num (n : Int) : Prop := 0 ≤ n ∧ n < 115792089237316195423570985008687907853269984665640564039457584007913129639936
def hiN (n m : Int) : Int := n * m / 115792089237316195423570985008687907853269984665640564039457584007913129639936
def loN (n m : Int) : Int := n * m % 115792089237316195423570985008687907853269984665640564039457584007913129639936
end Go.Proofs.Ytahekhamhdfkdaa

/- The school's product of two numbers of four limbs. -/
namespace Go.Proofs.Ytahekhamhdfkdaa

/-- A number below 2^512, by its halves. -/
theorem halves {n m h l : Int} (hl : Num l) (e : l + 115792089237316195423570985008687907853269984665640564039457584007913129639936 * h = n * m) : hiN n m = h ∧ loN n m = l := by
  obtain ⟨_, _⟩ := hl
  unfold hiN loN
  generalize n * m = p at *
  omega

end Go.Proofs.Ytahekhamhdfkdaa

/- Long division, limb by limb: the numbers of lists of limbs. -/
namespace Go.Proofs.Ytahekhamhdfkdaa

def val : List Int → Int
  | [] => 0
  | x :: xs => x + 18446744073709551616 * val xs
def Words (l : List Int) : Prop := ∀ x ∈ l, Word x

end Go.Proofs.Ytahekhamhdfkdaa

/- The numbers modulo 2^256 are a ring. -/
namespace Go.Proofs.Ytahekhamhdfkdaa

end Go.Proofs.Ytahekhamhdfkdaa

namespace Go.Proofs.Ytahekhamhdfkdaa

/-- What holds of a digit and of what is left, while it is put right. -/
structure Digit (U D p : Int) (len : Nat) (vs : List Int) (q b : Int) : Prop where
  ln : vs.length = len
  words : Words vs
  b0 : 0 ≤ b
  b1 : b ≤ 1
  wq : Word q
  e : val vs - p * b = U - q * D
  hi : U < (q + 1) * D

end Go.Proofs.Ytahekhamhdfkdaa

/- Numbers as rows of 32-bit digits, the lowest first. -/
namespace Go.Proofs.Ytahekhamhdfkdaa

def Dig (x : Int) : Prop := 0 ≤ x ∧ x < 4294967296
def Digs (l : List Int) : Prop := ∀ x ∈ l, Dig x

theorem Digs.getD {l : List Int} (h : Digs l) (i : Nat) : Dig (l.getD i 0) := by
  by_cases c : i < l.length
  · have : l.getD i 0 = l[i] := by simp [List.getD, c]
    rw [this]; exact h _ (List.getElem_mem c)
  · have : l.getD i 0 = 0 := by simp [List.getD, List.getElem?_eq_none (Nat.le_of_not_lt c)]
    rw [this]; exact ⟨by decide, by decide⟩
theorem Digs.set {l : List Int} (h : Digs l) (i : Nat) {v : Int} (hv : Dig v) : Digs (l.set i v) := fun x hx => by
  rcases List.mem_or_eq_of_mem_set hx with h' | h'
  · exact h x h'
  · rw [h']; exact hv
theorem Digs.of8 {a b c d e f g h : Int} (h0 : Dig a) (h1 : Dig b) (h2 : Dig c) (h3 : Dig d) (h4 : Dig e) (h5 : Dig f) (h6 : Dig g) (h7 : Dig h) : Digs [a, b, c, d, e, f, g, h] := by
  intro x hx
  simp only [List.mem_cons, List.not_mem_nil, or_false] at hx
  rcases hx with rfl | rfl | rfl | rfl | rfl | rfl | rfl | rfl <;> assumption
theorem getD_set_ne {l : List Int} {i t : Nat} (h : t ≠ i) (v : Int) : (l.set i v).getD t 0 = l.getD t 0 := by
  simp [List.getD, List.getElem?_set_ne (Ne.symm h)]
theorem Digs.take {l : List Int} (h : Digs l) (k : Nat) : Digs (l.take k) := fun x hx => h x (List.mem_of_mem_take hx)
theorem Digs.drop {l : List Int} (h : Digs l) (k : Nat) : Digs (l.drop k) := fun x hx => h x (List.mem_of_mem_drop hx)
end Go.Proofs.Ytahekhamhdfkdaa

/- One digit of a long division, guessed from the top half of the divisor (32-bit halves). -/
namespace Go.Proofs.Ytahekhamhdfkdaa

/-- What holds of the guess q and its rest r, at every round. -/
structure Guess (un u y y1 y0 q r : Int) : Prop where
  q0 : 0 ≤ q
  q1 : q ≤ 4294967297
  r0 : 0 ≤ r
  r1 : r < 4294967296
  e : q * y1 + r = un
  hi : un * 4294967296 + u < (q + 1) * y

structure Halves (un u y y1 y0 : Int) : Prop where
  e : y = y1 * 4294967296 + y0
  a0 : 0 ≤ y0
  a1 : y0 < 4294967296
  b0 : 2147483648 ≤ y1
  b1 : y1 < 4294967296
  n0 : 0 ≤ un
  n1 : un < y
  u0 : 0 ≤ u
  u1 : u < 4294967296

theorem Guess.first {un u y y1 y0 : Int} (H : Halves un u y y1 y0) : Guess un u y y1 y0 (un / y1) (un - un / y1 * y1) := by
  obtain ⟨e, a0, a1, b0, b1, n0, n1, u0, u1⟩ := H
  have d := Int.emod_add_mul_ediv un y1
  have m0 := Int.emod_nonneg un (show y1 ≠ 0 by omega)
  have m1 := Int.emod_lt_of_pos un (show 0 < y1 by omega)
  have q0 : 0 ≤ un / y1 := Int.ediv_nonneg n0 (by omega)
  have q1 : un / y1 < 4294967298 := Int.ediv_lt_of_lt_mul (by omega) (by omega)
  generalize un / y1 = q at *
  generalize un % y1 = m at *
  rw [Int.mul_comm] at d
  generalize hp : q * y1 = p at *
  refine ⟨q0, by omega, by omega, by omega, by rw [hp]; omega, ?_⟩
  rw [e, Int.mul_add, ← Int.mul_assoc, Int.add_mul, hp, Int.one_mul]
  have : 0 ≤ (q + 1) * y0 := Int.mul_nonneg (by omega) a0
  omega

/-- The test: the guess is too great just if it fails. -/
theorem Guess.test {un u y y1 y0 q r : Int} (H : Halves un u y y1 y0) (G : Guess un u y y1 y0 q r) : (q * y0 ≤ 4294967296 * r + u → q * y ≤ un * 4294967296 + u) ∧ (4294967296 * r + u < q * y0 → un * 4294967296 + u < q * y) := by
  obtain ⟨e, a0, a1, b0, b1, n0, n1, u0, u1⟩ := H
  obtain ⟨q0, q1, r0, r1, g, hi⟩ := G
  rw [e, Int.mul_add, ← Int.mul_assoc]
  generalize q * y1 = p at *
  generalize q * y0 = s at *
  omega

/-- One lower. -/
theorem Guess.down {un u y y1 y0 q r : Int} (H : Halves un u y y1 y0) (G : Guess un u y y1 y0 q r) (t : 4294967296 ≤ q ∨ 4294967296 * r + u < q * y0) :
    0 < q ∧ q - 1 ≤ 4294967296 ∧ (q - 1) * y1 + (r + y1) = un ∧ un * 4294967296 + u < (q - 1 + 1) * y := by
  have T := (G.test H).2
  obtain ⟨e, a0, a1, b0, b1, n0, n1, u0, u1⟩ := H
  obtain ⟨q0, q1, r0, r1, g, hi⟩ := G
  have hq : 0 < q := by
    rcases t with t | t
    · omega
    · rcases Int.lt_or_eq_of_le q0 with h | h
      · exact h
      · rw [← h] at t; omega
  refine ⟨hq, by omega, ?_, ?_⟩
  · rw [Int.sub_mul, Int.one_mul]; omega
  · rw [Int.sub_add_cancel]
    rcases t with t | t
    · have : 4294967296 * y ≤ q * y := Int.mul_le_mul_of_nonneg_right t (by omega)
      omega
    · exact T t

/-- The guess is the digit. -/
theorem digit_of {U y q : Int} (_hy : 0 < y) (h0 : q * y ≤ U) (h1 : U < (q + 1) * y) : U / y = q ∧ U % y = U - q * y := by
  have h := (Int.ediv_emod_unique (a := U) (b := y) (r := U - q * y) (q := q) (by omega)).2 ⟨by rw [Int.mul_comm y q]; omega, by omega, by rw [Int.add_mul, Int.one_mul] at h1; omega⟩
  exact h

/-- Out of the loop by its test. -/
theorem Guess.out {un u y y1 y0 q r : Int} (H : Halves un u y y1 y0) (G : Guess un u y y1 y0 q r) (t : q * y0 ≤ 4294967296 * r + u) : (un * 4294967296 + u) / y = q ∧ (un * 4294967296 + u) % y = un * 4294967296 + u - q * y :=
  digit_of (by obtain ⟨e, a0, a1, b0, b1, n0, n1, u0, u1⟩ := H; omega) ((G.test H).1 t) G.hi

theorem Guess.next {un u y y1 y0 q r : Int} (H : Halves un u y y1 y0) (G : Guess un u y y1 y0 q r) (t : 4294967296 ≤ q ∨ 4294967296 * r + u < q * y0) (h : r + y1 < 4294967296) : Guess un u y y1 y0 (q - 1) (r + y1) := by
  obtain ⟨d0, d1, d2, d3⟩ := G.down H t
  obtain ⟨e, a0, a1, b0, b1, n0, n1, u0, u1⟩ := H
  exact ⟨by omega, by omega, by have := G.r0; omega, h, d2, d3⟩

end Go.Proofs.Ytahekhamhdfkdaa
