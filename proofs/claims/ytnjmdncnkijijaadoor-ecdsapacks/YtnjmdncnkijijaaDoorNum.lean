
/- Plain numbers: limbs of a number below 2^256. -/
namespace Go.Proofs.YtnjmdncnkijijaaDoor

/-- A limb. -/
def Word (x : Int) : Prop := 0 ≤ x ∧ x < 18446744073709551616

def subS (x y b : Int) : Int := (x - y - b) % 18446744073709551616
def subB (x y b : Int) : Int := if x < y + b then 1 else 0
theorem subS_word (x y c : Int) : Word (subS x y c) := ⟨by unfold subS; omega, by unfold subS; omega⟩
theorem subB_bit (x y b : Int) : 0 ≤ subB x y b ∧ subB x y b ≤ 1 := by unfold subB; split <;> omega
theorem subS_eq {x y b : Int} (hx : Word x) (hy : Word y) (hb : 0 ≤ b ∧ b ≤ 1) : subS x y b - 18446744073709551616 * subB x y b = x - y - b := by
  obtain ⟨_, _⟩ := hx; obtain ⟨_, _⟩ := hy; unfold subS subB; split <;> omega
/-! ### The four limbs of a number, the number of four limbs -/
def l0 (n : Int) : Int := n % 18446744073709551616
def l1 (n : Int) : Int := n / 18446744073709551616 % 18446744073709551616
def l2 (n : Int) : Int := n / 340282366920938463463374607431768211456 % 18446744073709551616
def l3 (n : Int) : Int := n / 6277101735386680763835789423207666416102355444464034512896 % 18446744073709551616
/-- A number below 2^256. -/
def Num (n : Int) : Prop := 0 ≤ n ∧ n < 115792089237316195423570985008687907853269984665640564039457584007913129639936
def num (a b c d : Int) : Int := a + 18446744073709551616 * b + 340282366920938463463374607431768211456 * c + 6277101735386680763835789423207666416102355444464034512896 * d

theorem l0_word (n : Int) : Word (l0 n) := ⟨by unfold l0; omega, by unfold l0; omega⟩
theorem l1_word (n : Int) : Word (l1 n) := ⟨by unfold l1; omega, by unfold l1; omega⟩
theorem l2_word (n : Int) : Word (l2 n) := ⟨by unfold l2; omega, by unfold l2; omega⟩
theorem l3_word (n : Int) : Word (l3 n) := ⟨by unfold l3; omega, by unfold l3; omega⟩
theorem num_Num {a b c d : Int} (ha : Word a) (hb : Word b) (hc : Word c) (hd : Word d) : Num (num a b c d) := by
  obtain ⟨_, _⟩ := ha; obtain ⟨_, _⟩ := hb; obtain ⟨_, _⟩ := hc; obtain ⟨_, _⟩ := hd
  unfold Num num; omega
theorem num_l {n : Int} (h : Num n) : num (l0 n) (l1 n) (l2 n) (l3 n) = n := by
  obtain ⟨_, _⟩ := h; unfold num l0 l1 l2 l3; omega
theorem l0_num {a b c d : Int} (ha : Word a) : l0 (num a b c d) = a := by
  obtain ⟨_, _⟩ := ha; unfold l0 num; omega
theorem l1_num {a b c d : Int} (ha : Word a) (hb : Word b) : l1 (num a b c d) = b := by
  obtain ⟨_, _⟩ := ha; obtain ⟨_, _⟩ := hb; unfold l1 num; omega
theorem l2_num {a b c d : Int} (ha : Word a) (hb : Word b) (hc : Word c) : l2 (num a b c d) = c := by
  obtain ⟨_, _⟩ := ha; obtain ⟨_, _⟩ := hb; obtain ⟨_, _⟩ := hc; unfold l2 num; omega
theorem l3_num {a b c d : Int} (ha : Word a) (hb : Word b) (hc : Word c) (hd : Word d) : l3 (num a b c d) = d := by
  obtain ⟨_, _⟩ := ha; obtain ⟨_, _⟩ := hb; obtain ⟨_, _⟩ := hc; obtain ⟨_, _⟩ := hd; unfold l3 num; omega
/-- Four limbs are those of their number. -/
theorem limbs_of {n a b c d : Int} (ha : Word a) (hb : Word b) (hc : Word c) (hd : Word d) (h : n = num a b c d) : l0 n = a ∧ l1 n = b ∧ l2 n = c ∧ l3 n = d := by
  subst h; exact ⟨l0_num ha, l1_num ha hb, l2_num ha hb hc, l3_num ha hb hc hd⟩
theorem num_inj {n m : Int} (hn : Num n) (hm : Num m) (h0 : l0 n = l0 m) (h1 : l1 n = l1 m) (h2 : l2 n = l2 m) (h3 : l3 n = l3 m) : n = m := by
  rw [← num_l hn, ← num_l hm, h0, h1, h2, h3]

def difN (n m : Int) : Int := (n - m) % 115792089237316195423570985008687907853269984665640564039457584007913129639936
def borN (n m : Int) : Int := if n < m then 1 else 0
def hiN (n m : Int) : Int := n * m / 115792089237316195423570985008687907853269984665640564039457584007913129639936
def loN (n m : Int) : Int := n * m % 115792089237316195423570985008687907853269984665640564039457584007913129639936
def cmpN (n m : Int) : Int := if n = m then 0 else if n < m then -1 else 1

theorem sub_num {a0 a1 a2 a3 b0 b1 b2 b3 : Int} (ha0 : Word a0) (ha1 : Word a1) (ha2 : Word a2) (ha3 : Word a3) (hb0 : Word b0) (hb1 : Word b1) (hb2 : Word b2) (hb3 : Word b3) :
    let c0 := subB a0 b0 0; let c1 := subB a1 b1 c0; let c2 := subB a2 b2 c1; let c3 := subB a3 b3 c2
    let s := difN (num a0 a1 a2 a3) (num b0 b1 b2 b3)
    l0 s = subS a0 b0 0 ∧ l1 s = subS a1 b1 c0 ∧ l2 s = subS a2 b2 c1 ∧ l3 s = subS a3 b3 c2 ∧ borN (num a0 a1 a2 a3) (num b0 b1 b2 b3) = c3 := by
  intro c0 c1 c2 c3 s
  have t0 := subB_bit a0 b0 0
  have t1 := subB_bit a1 b1 c0
  have t2 := subB_bit a2 b2 c1
  have t3 := subB_bit a3 b3 c2
  have e0 := subS_eq ha0 hb0 (by decide : (0 : Int) ≤ 0 ∧ (0 : Int) ≤ 1)
  have e1 := subS_eq ha1 hb1 t0
  have e2 := subS_eq ha2 hb2 t1
  have e3 := subS_eq ha3 hb3 t2
  have w0 := subS_word a0 b0 0
  have w1 := subS_word a1 b1 c0
  have w2 := subS_word a2 b2 c1
  have w3 := subS_word a3 b3 c2
  have k := num_Num w0 w1 w2 w3
  have k0 : subB a0 b0 0 = c0 := rfl
  have k1 : subB a1 b1 c0 = c1 := rfl
  have k2 : subB a2 b2 c1 = c2 := rfl
  have k3 : subB a3 b3 c2 = c3 := rfl
  rw [k0] at e0 e1; rw [k1] at e1 e2; rw [k2] at e2 e3; rw [k3] at e3 t3
  have hs : num a0 a1 a2 a3 - num b0 b1 b2 b3 = num (subS a0 b0 0) (subS a1 b1 c0) (subS a2 b2 c1) (subS a3 b3 c2) - 115792089237316195423570985008687907853269984665640564039457584007913129639936 * c3 := by
    unfold num; omega
  obtain ⟨k4, k5⟩ := k
  have hs' : s = num (subS a0 b0 0) (subS a1 b1 c0) (subS a2 b2 c1) (subS a3 b3 c2) := by
    show (num a0 a1 a2 a3 - num b0 b1 b2 b3) % _ = _
    omega
  obtain ⟨r0, r1, r2, r3⟩ := limbs_of w0 w1 w2 w3 hs'
  exact ⟨r0, r1, r2, r3, by unfold borN; split <;> omega⟩

end Go.Proofs.YtnjmdncnkijijaaDoor

/- What hangs on a modulus: plain numbers. -/
namespace Go.Proofs.YtnjmdncnkijijaaDoor

/-- m: a modulus of 256 bits; c: what is left of 2^256. -/
structure Fit (m c : Int) : Prop where
  low : 57896044618658097711785492504343953926634992332820282019728792003956564819968 ≤ m
  pos : 0 < c
  sum : m + c = 115792089237316195423570985008687907853269984665640564039457584007913129639936

theorem Fit.num {m c : Int} (h : Fit m c) : Num m := by obtain ⟨_, _, _⟩ := h; unfold Num; omega
def modN (m n : Int) : Int := n % m
def pN : Int := 115792089237316195423570985008687907853269984665640564039457584007908834671663
def nN : Int := 115792089237316195423570985008687907852837564279074904382605163141518161494337
def pC : Int := 4294968273
def nC : Int := 432420386565659656852420866394968145599
theorem fit_n : Fit nN nC := ⟨by decide, by decide, by decide⟩
theorem limbs_p : l0 pN = 18446744069414583343 ∧ l1 pN = 18446744073709551615 ∧ l2 pN = 18446744073709551615 ∧ l3 pN = 18446744073709551615 := by decide
theorem limbs_pc : l0 pC = 4294968273 ∧ l1 pC = 0 ∧ l2 pC = 0 ∧ l3 pC = 0 := by decide
theorem limbs_n : l0 nN = 13822214165235122497 ∧ l1 nN = 13451932020343611451 ∧ l2 nN = 18446744073709551614 ∧ l3 nN = 18446744073709551615 := by decide
theorem limbs_nc : l0 nC = 4624529908474429119 ∧ l1 nC = 4994812053365940164 ∧ l2 nC = 1 ∧ l3 nC = 0 := by decide
end Go.Proofs.YtnjmdncnkijijaaDoor

/- The school's product of two numbers of four limbs. -/
namespace Go.Proofs.YtnjmdncnkijijaaDoor

theorem mul_num_right (x y0 y1 y2 y3 : Int) : x * num y0 y1 y2 y3 = num (x * y0) (x * y1) (x * y2) (x * y3) := by
  unfold num
  rw [Int.mul_add, Int.mul_add, Int.mul_add, Int.mul_left_comm x _ y1, Int.mul_left_comm x _ y2, Int.mul_left_comm x _ y3]
theorem mul_num_left (x0 x1 x2 x3 y : Int) : num x0 x1 x2 x3 * y = num (x0 * y) (x1 * y) (x2 * y) (x3 * y) := by
  rw [Int.mul_comm, mul_num_right, Int.mul_comm y, Int.mul_comm y, Int.mul_comm y, Int.mul_comm y]

/-- A number below 2^512, by its halves. -/
theorem halves {n m h l : Int} (hl : Num l) (e : l + 115792089237316195423570985008687907853269984665640564039457584007913129639936 * h = n * m) : hiN n m = h ∧ loN n m = l := by
  obtain ⟨_, _⟩ := hl
  unfold hiN loN
  generalize n * m = p at *
  omega

end Go.Proofs.YtnjmdncnkijijaaDoor

/- Long division, limb by limb: the numbers of lists of limbs. -/
namespace Go.Proofs.YtnjmdncnkijijaaDoor

def val : List Int → Int
  | [] => 0
  | x :: xs => x + 18446744073709551616 * val xs
def Words (l : List Int) : Prop := ∀ x ∈ l, Word x

end Go.Proofs.YtnjmdncnkijijaaDoor

/- The numbers modulo 2^256 are a ring. -/
namespace Go.Proofs.YtnjmdncnkijijaaDoor

theorem mul_mod (a b c : Int) : a * (b % c) % c = a * b % c := by rw [Int.mul_emod, Int.emod_emod, ← Int.mul_emod]
end Go.Proofs.YtnjmdncnkijijaaDoor

namespace Go.Proofs.YtnjmdncnkijijaaDoor

/-- What holds of a digit and of what is left, while it is put right. -/
structure Digit (U D p : Int) (len : Nat) (vs : List Int) (q b : Int) : Prop where
  ln : vs.length = len
  words : Words vs
  b0 : 0 ≤ b
  b1 : b ≤ 1
  wq : Word q
  e : val vs - p * b = U - q * D
  hi : U < (q + 1) * D

end Go.Proofs.YtnjmdncnkijijaaDoor

/- One digit of a long division, guessed from the top half of the divisor (32-bit halves). -/
namespace Go.Proofs.YtnjmdncnkijijaaDoor

/-- What holds of the guess q and its rest r, at every round. -/
structure Guess (un u y y1 y0 q r : Int) : Prop where
  q0 : 0 ≤ q
  q1 : q ≤ 4294967297
  r0 : 0 ≤ r
  r1 : r < 4294967296
  e : q * y1 + r = un
  hi : un * 4294967296 + u < (q + 1) * y

structure Halves (un u y y1 y0 : Int) : Prop where
  e : y = y1 * 4294967296 + y0
  a0 : 0 ≤ y0
  a1 : y0 < 4294967296
  b0 : 2147483648 ≤ y1
  b1 : y1 < 4294967296
  n0 : 0 ≤ un
  n1 : un < y
  u0 : 0 ≤ u
  u1 : u < 4294967296

theorem Guess.first {un u y y1 y0 : Int} (H : Halves un u y y1 y0) : Guess un u y y1 y0 (un / y1) (un - un / y1 * y1) := by
  obtain ⟨e, a0, a1, b0, b1, n0, n1, u0, u1⟩ := H
  have d := Int.emod_add_mul_ediv un y1
  have m0 := Int.emod_nonneg un (show y1 ≠ 0 by omega)
  have m1 := Int.emod_lt_of_pos un (show 0 < y1 by omega)
  have q0 : 0 ≤ un / y1 := Int.ediv_nonneg n0 (by omega)
  have q1 : un / y1 < 4294967298 := Int.ediv_lt_of_lt_mul (by omega) (by omega)
  generalize un / y1 = q at *
  generalize un % y1 = m at *
  rw [Int.mul_comm] at d
  generalize hp : q * y1 = p at *
  refine ⟨q0, by omega, by omega, by omega, by rw [hp]; omega, ?_⟩
  rw [e, Int.mul_add, ← Int.mul_assoc, Int.add_mul, hp, Int.one_mul]
  have : 0 ≤ (q + 1) * y0 := Int.mul_nonneg (by omega) a0
  omega

/-- The test: the guess is too great just if it fails. -/
theorem Guess.test {un u y y1 y0 q r : Int} (H : Halves un u y y1 y0) (G : Guess un u y y1 y0 q r) : (q * y0 ≤ 4294967296 * r + u → q * y ≤ un * 4294967296 + u) ∧ (4294967296 * r + u < q * y0 → un * 4294967296 + u < q * y) := by
  obtain ⟨e, a0, a1, b0, b1, n0, n1, u0, u1⟩ := H
  obtain ⟨q0, q1, r0, r1, g, hi⟩ := G
  rw [e, Int.mul_add, ← Int.mul_assoc]
  generalize q * y1 = p at *
  generalize q * y0 = s at *
  omega

/-- One lower. -/
theorem Guess.down {un u y y1 y0 q r : Int} (H : Halves un u y y1 y0) (G : Guess un u y y1 y0 q r) (t : 4294967296 ≤ q ∨ 4294967296 * r + u < q * y0) :
    0 < q ∧ q - 1 ≤ 4294967296 ∧ (q - 1) * y1 + (r + y1) = un ∧ un * 4294967296 + u < (q - 1 + 1) * y := by
  have T := (G.test H).2
  obtain ⟨e, a0, a1, b0, b1, n0, n1, u0, u1⟩ := H
  obtain ⟨q0, q1, r0, r1, g, hi⟩ := G
  have hq : 0 < q := by
    rcases t with t | t
    · omega
    · rcases Int.lt_or_eq_of_le q0 with h | h
      · exact h
      · rw [← h] at t; omega
  refine ⟨hq, by omega, ?_, ?_⟩
  · rw [Int.sub_mul, Int.one_mul]; omega
  · rw [Int.sub_add_cancel]
    rcases t with t | t
    · have : 4294967296 * y ≤ q * y := Int.mul_le_mul_of_nonneg_right t (by omega)
      omega
    · exact T t

/-- The guess is the digit. -/
theorem digit_of {U y q : Int} (_hy : 0 < y) (h0 : q * y ≤ U) (h1 : U < (q + 1) * y) : U / y = q ∧ U % y = U - q * y := by
  have h := (Int.ediv_emod_unique (a := U) (b := y) (r := U - q * y) (q := q) (by omega)).2 ⟨by rw [Int.mul_comm y q]; omega, by omega, by rw [Int.add_mul, Int.one_mul] at h1; omega⟩
  exact h

/-- Out of the loop by its test. -/
theorem Guess.out {un u y y1 y0 q r : Int} (H : Halves un u y y1 y0) (G : Guess un u y y1 y0 q r) (t : q * y0 ≤ 4294967296 * r + u) : (un * 4294967296 + u) / y = q ∧ (un * 4294967296 + u) % y = un * 4294967296 + u - q * y :=
  digit_of (by obtain ⟨e, a0, a1, b0, b1, n0, n1, u0, u1⟩ := H; omega) ((G.test H).1 t) G.hi

/-- Out of the loop by the rest's size. -/
theorem Guess.leave {un u y y1 y0 q r : Int} (H : Halves un u y y1 y0) (G : Guess un u y y1 y0 q r) (t : 4294967296 ≤ q ∨ 4294967296 * r + u < q * y0) (h : 4294967296 ≤ r + y1) :
    (un * 4294967296 + u) / y = q - 1 ∧ (un * 4294967296 + u) % y = un * 4294967296 + u - (q - 1) * y := by
  obtain ⟨d0, d1, d2, d3⟩ := G.down H t
  obtain ⟨e, a0, a1, b0, b1, n0, n1, u0, u1⟩ := H
  refine digit_of (by omega) ?_ d3
  have s : (q - 1) * y0 ≤ 4294967296 * y0 := Int.mul_le_mul_of_nonneg_right d1 a0
  rw [e, Int.mul_add, ← Int.mul_assoc]
  generalize (q - 1) * y1 = p at *
  generalize (q - 1) * y0 = v at *
  omega

theorem Guess.next {un u y y1 y0 q r : Int} (H : Halves un u y y1 y0) (G : Guess un u y y1 y0 q r) (t : 4294967296 ≤ q ∨ 4294967296 * r + u < q * y0) (h : r + y1 < 4294967296) : Guess un u y y1 y0 (q - 1) (r + y1) := by
  obtain ⟨d0, d1, d2, d3⟩ := G.down H t
  obtain ⟨e, a0, a1, b0, b1, n0, n1, u0, u1⟩ := H
  exact ⟨by omega, by omega, by have := G.r0; omega, h, d2, d3⟩

end Go.Proofs.YtnjmdncnkijijaaDoor
