import Derived.Test.YtmcodflbngkdcaaGreatDoorNum
import Derived.Test.YtmcodflbngkdcaaGreatDoorKSpec
/- The school's product of two numbers of four limbs. -/
namespace Go.Proofs.YtmcodflbngkdcaaGreatDoor

theorem mul_num_right (x y0 y1 y2 y3 : Int) : x * num y0 y1 y2 y3 = num (x * y0) (x * y1) (x * y2) (x * y3) := by
  unfold num
  rw [Int.mul_add, Int.mul_add, Int.mul_add, Int.mul_left_comm x _ y1, Int.mul_left_comm x _ y2, Int.mul_left_comm x _ y3]
theorem mul_num_left (x0 x1 x2 x3 y : Int) : num x0 x1 x2 x3 * y = num (x0 * y) (x1 * y) (x2 * y) (x3 * y) := by
  rw [Int.mul_comm, mul_num_right, Int.mul_comm y, Int.mul_comm y, Int.mul_comm y, Int.mul_comm y]

/-- One row: x times y, added to what lies there. -/
theorem mul_row {x y0 y1 y2 y3 a0 a1 a2 a3 p0 p1 p2 p3 c0 c1 c2 c3 : Int}
    (e0 : p0 + 18446744073709551616 * c0 = x * y0 + a0 + 0) (e1 : p1 + 18446744073709551616 * c1 = x * y1 + a1 + c0)
    (e2 : p2 + 18446744073709551616 * c2 = x * y2 + a2 + c1) (e3 : p3 + 18446744073709551616 * c3 = x * y3 + a3 + c2) :
    num p0 p1 p2 p3 + 115792089237316195423570985008687907853269984665640564039457584007913129639936 * c3 = num a0 a1 a2 a3 + x * num y0 y1 y2 y3 := by
  rw [mul_num_right]
  unfold num
  generalize x * y0 = z0 at *; generalize x * y1 = z1 at *; generalize x * y2 = z2 at *; generalize x * y3 = z3 at *
  omega

/-- Four rows. -/
theorem mul_rows {x0 x1 x2 x3 Y : Int} {p00 p01 p02 p03 c03 p10 p11 p12 p13 c13 p20 p21 p22 p23 c23 p30 p31 p32 p33 c33 : Int}
    (r0 : num p00 p01 p02 p03 + 115792089237316195423570985008687907853269984665640564039457584007913129639936 * c03 = num 0 0 0 0 + x0 * Y)
    (r1 : num p10 p11 p12 p13 + 115792089237316195423570985008687907853269984665640564039457584007913129639936 * c13 = num p01 p02 p03 c03 + x1 * Y)
    (r2 : num p20 p21 p22 p23 + 115792089237316195423570985008687907853269984665640564039457584007913129639936 * c23 = num p11 p12 p13 c13 + x2 * Y)
    (r3 : num p30 p31 p32 p33 + 115792089237316195423570985008687907853269984665640564039457584007913129639936 * c33 = num p21 p22 p23 c23 + x3 * Y) :
    num p00 p10 p20 p30 + 115792089237316195423570985008687907853269984665640564039457584007913129639936 * num p31 p32 p33 c33 = num x0 x1 x2 x3 * Y := by
  rw [mul_num_left]
  generalize x0 * Y = z0 at *; generalize x1 * Y = z1 at *; generalize x2 * Y = z2 at *; generalize x3 * Y = z3 at *
  unfold num at *
  omega

/-- A number below 2^512, by its halves. -/
theorem halves {n m h l : Int} (hl : Num l) (e : l + 115792089237316195423570985008687907853269984665640564039457584007913129639936 * h = n * m) : hiN n m = h ∧ loN n m = l := by
  obtain ⟨_, _⟩ := hl
  unfold hiN loN
  generalize n * m = p at *
  omega

end Go.Proofs.YtmcodflbngkdcaaGreatDoor

/- The numbers modulo 2^256 are a ring. -/
namespace Go.Proofs.YtmcodflbngkdcaaGreatDoor

theorem mul_mod (a b c : Int) : a * (b % c) % c = a * b % c := by rw [Int.mul_emod, Int.emod_emod, ← Int.mul_emod]
end Go.Proofs.YtmcodflbngkdcaaGreatDoor

/- The permutation is one to one. -/
namespace Go.Proofs.YtmcodflbngkdcaaGreatDoor.K

end Go.Proofs.YtmcodflbngkdcaaGreatDoor.K

/- A number's bits, as the doublings take them. -/
namespace Go.Proofs.YtmcodflbngkdcaaGreatDoor
namespace EC
def colK (c : Nat) : Nat := c % 2 + 18446744073709551616 * (c / 2 % 2) + 340282366920938463463374607431768211456 * (c / 4 % 2) + 6277101735386680763835789423207666416102355444464034512896 * (c / 8 % 2)
end EC
/-- What the doublings have carried on of a when i are left. -/
def aAt (a : Int) (i : Nat) : Nat := (l0 a).toNat / 2 ^ i + 18446744073709551616 * ((l1 a).toNat / 2 ^ i) + 340282366920938463463374607431768211456 * ((l2 a).toNat / 2 ^ i) + 6277101735386680763835789423207666416102355444464034512896 * ((l3 a).toNat / 2 ^ i)
/-- And of b. -/
def bAt (b : Nat) (i : Nat) : Nat := b / 2 ^ (4 * ((i + 3) / 4)) * 2 ^ (4 * ((i + 3) / 4) - i)
def colN (a : Int) (i : Nat) : Nat := (l0 a).toNat / 2 ^ i % 2 + 2 * ((l1 a).toNat / 2 ^ i % 2) + 4 * ((l2 a).toNat / 2 ^ i % 2) + 8 * ((l3 a).toNat / 2 ^ i % 2)
theorem colN_lt (a : Int) (i : Nat) : colN a i < 16 := by
  unfold colN
  have h1 := Nat.mod_lt ((l0 a).toNat / 2 ^ i) (show 0 < 2 by decide)
  have h2 := Nat.mod_lt ((l1 a).toNat / 2 ^ i) (show 0 < 2 by decide)
  have h3 := Nat.mod_lt ((l2 a).toNat / 2 ^ i) (show 0 < 2 by decide)
  have h4 := Nat.mod_lt ((l3 a).toNat / 2 ^ i) (show 0 < 2 by decide)
  omega
theorem bits4 {a b c d : Nat} (ha : a < 2) (hb : b < 2) (hc : c < 2) (hd : d < 2) : EC.colK (a + 2 * b + 4 * c + 8 * d) = a + 18446744073709551616 * b + 340282366920938463463374607431768211456 * c + 6277101735386680763835789423207666416102355444464034512896 * d := by
  unfold EC.colK
  have e1 : (a + 2 * b + 4 * c + 8 * d) % 2 = a := by omega
  have e2 : (a + 2 * b + 4 * c + 8 * d) / 2 % 2 = b := by omega
  have e3 : (a + 2 * b + 4 * c + 8 * d) / 4 % 2 = c := by omega
  have e4 : (a + 2 * b + 4 * c + 8 * d) / 8 % 2 = d := by omega
  rw [e1, e2, e3, e4]
theorem half_pow (x i : Nat) : x / 2 ^ i = 2 * (x / 2 ^ (i + 1)) + x / 2 ^ i % 2 := by
  have : x / 2 ^ (i + 1) = x / 2 ^ i / 2 := by rw [Nat.pow_succ, Nat.div_div_eq_div_mul]
  rw [this]; omega
theorem aAt_step (a : Int) (i : Nat) : aAt a i = 2 * aAt a (i + 1) + EC.colK (colN a i) := by
  have h1 := Nat.mod_lt ((l0 a).toNat / 2 ^ i) (show 0 < 2 by decide)
  have h2 := Nat.mod_lt ((l1 a).toNat / 2 ^ i) (show 0 < 2 by decide)
  have h3 := Nat.mod_lt ((l2 a).toNat / 2 ^ i) (show 0 < 2 by decide)
  have h4 := Nat.mod_lt ((l3 a).toNat / 2 ^ i) (show 0 < 2 by decide)
  unfold colN
  rw [bits4 h1 h2 h3 h4]
  unfold aAt
  have k1 := half_pow (l0 a).toNat i
  have k2 := half_pow (l1 a).toNat i
  have k3 := half_pow (l2 a).toNat i
  have k4 := half_pow (l3 a).toNat i
  generalize (l0 a).toNat / 2 ^ i % 2 = r1 at *
  generalize (l1 a).toNat / 2 ^ i % 2 = r2 at *
  generalize (l2 a).toNat / 2 ^ i % 2 = r3 at *
  generalize (l3 a).toNat / 2 ^ i % 2 = r4 at *
  omega
theorem word_shift {x : Int} (h : Word x) {i : Nat} (hi : 64 ≤ i) : x.toNat / 2 ^ i = 0 := by
  apply Nat.div_eq_of_lt
  have h1 : x.toNat < 2 ^ 64 := by obtain ⟨a, b⟩ := h; omega
  exact Nat.lt_of_lt_of_le h1 (Nat.pow_le_pow_right (by decide) hi)
theorem aAt_far (a : Int) {i : Nat} (hi : 64 ≤ i) : aAt a i = 0 := by
  unfold aAt
  rw [word_shift (l0_word a) hi, word_shift (l1_word a) hi, word_shift (l2_word a) hi, word_shift (l3_word a) hi]
theorem aAt_zero {a : Int} (h : Num a) : aAt a 0 = a.toNat := by
  unfold aAt l0 l1 l2 l3
  obtain ⟨h0, h1⟩ := h
  simp only [Nat.pow_zero, Nat.div_one]
  omega
theorem bAt_zero (b : Nat) : bAt b 0 = b := by unfold bAt; simp
theorem bAt_top {b : Nat} (h : b < 2 ^ 256) : bAt b 256 = 0 := by
  unfold bAt
  rw [Nat.div_eq_of_lt (by simpa using h), Nat.zero_mul]
theorem bAt_step0 (b : Nat) {i : Nat} (hi : i % 4 = 0) : bAt b i = 2 * bAt b (i + 1) + b / 2 ^ i % 16 := by
  unfold bAt
  have e1 : 4 * ((i + 3) / 4) = i := by omega
  have e2 : 4 * ((i + 1 + 3) / 4) = i + 4 := by omega
  rw [e1, e2, show i + 4 - (i + 1) = 3 by omega, show i - i = 0 by omega, Nat.pow_add, ← Nat.div_div_eq_div_mul]
  simp only [Nat.pow_zero, Nat.mul_one, Nat.reducePow]
  omega
theorem bAt_step1 (b : Nat) {i : Nat} (hi : i % 4 ≠ 0) : bAt b i = 2 * bAt b (i + 1) := by
  unfold bAt
  have e1 : 4 * ((i + 1 + 3) / 4) = 4 * ((i + 3) / 4) := by omega
  have hle : i + 1 ≤ 4 * ((i + 3) / 4) := by omega
  rw [e1, show 4 * ((i + 3) / 4) - i = (4 * ((i + 3) / 4) - (i + 1)) + 1 by omega, Nat.pow_succ, ← Nat.mul_assoc, Nat.mul_comm 2]
/-- The digit of four bits, out of its limb. -/
def limbAt (b : Int) (k : Nat) : Int := if k = 0 then l0 b else if k = 1 then l1 b else if k = 2 then l2 b else l3 b
theorem nib (x r : Nat) {m : Nat} (hr : r + 4 ≤ m) : x % 2 ^ m / 2 ^ r % 16 = x / 2 ^ r % 16 := by
  have e : 2 ^ m = 2 ^ r * (16 * 2 ^ (m - r - 4)) := by
    rw [show (16 : Nat) = 2 ^ 4 by decide, ← Nat.pow_add, ← Nat.pow_add]; congr 1; omega
  rw [e, Nat.mod_mul_right_div_self, Nat.mod_mul_right_mod]
theorem limbAt_nat {b : Int} (h : Num b) {k : Nat} (hk : k < 4) : (limbAt b k).toNat = b.toNat / 2 ^ (64 * k) % 2 ^ 64 := by
  obtain ⟨n, rfl⟩ := Int.eq_ofNat_of_zero_le h.1
  have hc : k = 0 ∨ k = 1 ∨ k = 2 ∨ k = 3 := by omega
  rcases hc with rfl | rfl | rfl | rfl
  · show (l0 n).toNat = _; unfold l0; simp only [Nat.mul_zero, Nat.pow_zero, Nat.div_one, Nat.reducePow]; omega
  · show (l1 n).toNat = _; unfold l1; simp only [Nat.mul_one, Nat.reducePow]; omega
  · show (l2 n).toNat = _; unfold l2; simp only [Nat.reduceMul, Nat.reducePow]; omega
  · show (l3 n).toNat = _; unfold l3; simp only [Nat.reduceMul, Nat.reducePow]; omega
def digN (b : Int) (i : Nat) : Nat := (limbAt b (i / 64)).toNat / 2 ^ (i % 64) % 16
theorem digN_is {b : Int} (h : Num b) {i : Nat} (hi : i < 256) (h4 : i % 4 = 0) : digN b i = b.toNat / 2 ^ i % 16 := by
  unfold digN
  rw [limbAt_nat h (by omega), nib _ _ (by omega), Nat.div_div_eq_div_mul, ← Nat.pow_add, show 64 * (i / 64) + i % 64 = i by omega]
theorem digN_lt (b : Int) (i : Nat) : digN b i < 16 := Nat.mod_lt _ (by decide)
end Go.Proofs.YtmcodflbngkdcaaGreatDoor
