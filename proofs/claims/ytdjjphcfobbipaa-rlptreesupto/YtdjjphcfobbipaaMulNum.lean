import Derived.Test.YtdjjphcfobbipaaNum
/- The school's product of two numbers of four limbs. -/
namespace Go.Proofs.Ytdjjphcfobbipaa

theorem mul_num_right (x y0 y1 y2 y3 : Int) : x * num y0 y1 y2 y3 = num (x * y0) (x * y1) (x * y2) (x * y3) := by
  unfold num
  rw [Int.mul_add, Int.mul_add, Int.mul_add, Int.mul_left_comm x _ y1, Int.mul_left_comm x _ y2, Int.mul_left_comm x _ y3]
theorem mul_num_left (x0 x1 x2 x3 y : Int) : num x0 x1 x2 x3 * y = num (x0 * y) (x1 * y) (x2 * y) (x3 * y) := by
  rw [Int.mul_comm, mul_num_right, Int.mul_comm y, Int.mul_comm y, Int.mul_comm y, Int.mul_comm y]

/-- One row: x times y, added to what lies there. -/
theorem mul_row {x y0 y1 y2 y3 a0 a1 a2 a3 p0 p1 p2 p3 c0 c1 c2 c3 : Int}
    (e0 : p0 + 18446744073709551616 * c0 = x * y0 + a0 + 0) (e1 : p1 + 18446744073709551616 * c1 = x * y1 + a1 + c0)
    (e2 : p2 + 18446744073709551616 * c2 = x * y2 + a2 + c1) (e3 : p3 + 18446744073709551616 * c3 = x * y3 + a3 + c2) :
    num p0 p1 p2 p3 + 115792089237316195423570985008687907853269984665640564039457584007913129639936 * c3 = num a0 a1 a2 a3 + x * num y0 y1 y2 y3 := by
  rw [mul_num_right]
  unfold num
  generalize x * y0 = z0 at *; generalize x * y1 = z1 at *; generalize x * y2 = z2 at *; generalize x * y3 = z3 at *
  omega

/-- Four rows. -/
theorem mul_rows {x0 x1 x2 x3 Y : Int} {p00 p01 p02 p03 c03 p10 p11 p12 p13 c13 p20 p21 p22 p23 c23 p30 p31 p32 p33 c33 : Int}
    (r0 : num p00 p01 p02 p03 + 115792089237316195423570985008687907853269984665640564039457584007913129639936 * c03 = num 0 0 0 0 + x0 * Y)
    (r1 : num p10 p11 p12 p13 + 115792089237316195423570985008687907853269984665640564039457584007913129639936 * c13 = num p01 p02 p03 c03 + x1 * Y)
    (r2 : num p20 p21 p22 p23 + 115792089237316195423570985008687907853269984665640564039457584007913129639936 * c23 = num p11 p12 p13 c13 + x2 * Y)
    (r3 : num p30 p31 p32 p33 + 115792089237316195423570985008687907853269984665640564039457584007913129639936 * c33 = num p21 p22 p23 c23 + x3 * Y) :
    num p00 p10 p20 p30 + 115792089237316195423570985008687907853269984665640564039457584007913129639936 * num p31 p32 p33 c33 = num x0 x1 x2 x3 * Y := by
  rw [mul_num_left]
  generalize x0 * Y = z0 at *; generalize x1 * Y = z1 at *; generalize x2 * Y = z2 at *; generalize x3 * Y = z3 at *
  unfold num at *
  omega

/-- A number below 2^512, by its halves. -/
theorem halves {n m h l : Int} (hl : Num l) (e : l + 115792089237316195423570985008687907853269984665640564039457584007913129639936 * h = n * m) : hiN n m = h ∧ loN n m = l := by
  obtain ⟨_, _⟩ := hl
  unfold hiN loN
  generalize n * m = p at *
  omega

end Go.Proofs.Ytdjjphcfobbipaa

/- Long division, limb by limb: the numbers of lists of limbs. -/
namespace Go.Proofs.Ytdjjphcfobbipaa

def val : List Int → Int
  | [] => 0
  | x :: xs => x + 18446744073709551616 * val xs
def Words (l : List Int) : Prop := ∀ x ∈ l, Word x

theorem val_nonneg : ∀ {l : List Int}, Words l → 0 ≤ val l ∧ val l < 18446744073709551616 ^ l.length
  | [], _ => by simp [val]
  | x :: xs, h => by
    have hx := h x (by simp)
    have := val_nonneg (l := xs) (fun y hy => h y (by simp [hy]))
    obtain ⟨_, _⟩ := hx
    simp only [val, List.length_cons, Int.pow_succ]
    generalize (18446744073709551616 : Int) ^ xs.length = p at *
    omega

/-- u less d times q, limb by limb. -/
def takeL : List Int → List Int → Int → Int → Int → List Int × Int
  | u :: us, d :: ds, q, h, b => (subS u (maL d q h 0) b :: (takeL us ds q (maH d q h 0) (subB u (maL d q h 0) b)).1, (takeL us ds q (maH d q h 0) (subB u (maL d q h 0) b)).2)
  | u :: _, [], _, h, b => ([subS u h b], subB u h b)
  | [], _, _, _, _ => ([], 0)

theorem takeL_spec {q : Int} (hq : Word q) : ∀ (ds us : List Int) (h b : Int), us.length = ds.length + 1 → Words us → Words ds → Word h → 0 ≤ b ∧ b ≤ 1 →
    (takeL us ds q h b).1.length = us.length ∧ Words (takeL us ds q h b).1 ∧ (0 ≤ (takeL us ds q h b).2 ∧ (takeL us ds q h b).2 ≤ 1) ∧
    val (takeL us ds q h b).1 - 18446744073709551616 ^ us.length * (takeL us ds q h b).2 = val us - q * val ds - h - b
  | [], us, h, b, hl, hu, _, hh, hb => by
    match us, hl with
    | [u], _ =>
      have hu := hu u (by simp)
      have e := subS_eq hu hh hb
      refine ⟨rfl, fun x hx => ?_, subB_bit _ _ _, ?_⟩
      · simp only [takeL, List.mem_singleton] at hx; rw [hx]; exact subS_word _ _ _
      · simp only [takeL, val, List.length_cons, List.length_nil]
        rw [show (18446744073709551616 : Int) ^ (0 + 1) = 18446744073709551616 by decide]
        omega
  | d :: ds, us, h, b, hl, hu, hd, hh, hb => by
    match us, hl with
    | u :: us, hl =>
      have h1 := hu u (by simp)
      have h2 := hd d (by simp)
      have e := subS_eq h1 (maL_word d q h 0) hb
      have e' := ma_eq d q h 0
      obtain ⟨r1, r2, r3, r4⟩ := takeL_spec hq ds us (maH d q h 0) (subB u (maL d q h 0) b) (by simpa using hl) (fun x hx => hu x (by simp [hx])) (fun x hx => hd x (by simp [hx])) (maH_word h2 hq hh ⟨by decide, by decide⟩) (subB_bit _ _ _)
      refine ⟨by simp only [takeL, List.length_cons, r1], fun x hx => ?_, r3, ?_⟩
      · simp only [takeL, List.mem_cons] at hx
        rcases hx with rfl | hx
        · exact subS_word _ _ _
        · exact r2 x hx
      · simp only [takeL, val, List.length_cons, Int.pow_succ]
        rw [Int.mul_add, Int.mul_left_comm q, Int.mul_comm q d, Int.mul_right_comm]
        generalize (takeL us ds q (maH d q h 0) (subB u (maL d q h 0) b)).2 = c at *
        generalize val (takeL us ds q (maH d q h 0) (subB u (maL d q h 0) b)).1 = v at *
        generalize (18446744073709551616 : Int) ^ us.length * c = p at *
        generalize q * val ds = s at *
        generalize d * q = t at *
        omega

/-- u and d, limb by limb. -/
def giveL : List Int → List Int → Int → List Int × Int
  | u :: us, d :: ds, c => (addS u d c :: (giveL us ds (addC u d c)).1, (giveL us ds (addC u d c)).2)
  | u :: _, [], c => ([addS u 0 c], addC u 0 c)
  | [], _, _ => ([], 0)

theorem giveL_spec : ∀ (ds us : List Int) (c : Int), us.length = ds.length + 1 → Words us → Words ds → 0 ≤ c ∧ c ≤ 1 →
    (giveL us ds c).1.length = us.length ∧ Words (giveL us ds c).1 ∧ (0 ≤ (giveL us ds c).2 ∧ (giveL us ds c).2 ≤ 1) ∧
    val (giveL us ds c).1 + 18446744073709551616 ^ us.length * (giveL us ds c).2 = val us + val ds + c
  | [], us, c, hl, hu, _, hc => by
    match us, hl with
    | [u], _ =>
      have hu := hu u (by simp)
      have e := addS_eq u 0 c
      refine ⟨rfl, fun x hx => ?_, addC_bit hu ⟨by decide, by decide⟩ hc, ?_⟩
      · simp only [giveL, List.mem_singleton] at hx; rw [hx]; exact addS_word _ _ _
      · simp only [giveL, val, List.length_cons, List.length_nil]
        rw [show (18446744073709551616 : Int) ^ (0 + 1) = 18446744073709551616 by decide]
        omega
  | d :: ds, us, c, hl, hu, hd, hc => by
    match us, hl with
    | u :: us, hl =>
      have h1 := hu u (by simp)
      have h2 := hd d (by simp)
      have e := addS_eq u d c
      obtain ⟨r1, r2, r3, r4⟩ := giveL_spec ds us (addC u d c) (by simpa using hl) (fun x hx => hu x (by simp [hx])) (fun x hx => hd x (by simp [hx])) (addC_bit h1 h2 hc)
      refine ⟨by simp only [giveL, List.length_cons, r1], fun x hx => ?_, r3, ?_⟩
      · simp only [giveL, List.mem_cons] at hx
        rcases hx with rfl | hx
        · exact addS_word _ _ _
        · exact r2 x hx
      · simp only [giveL, val, List.length_cons, Int.pow_succ]
        rw [Int.mul_right_comm]
        generalize (giveL us ds (addC u d c)).2 = b at *
        generalize val (giveL us ds (addC u d c)).1 = v at *
        generalize (18446744073709551616 : Int) ^ us.length * b = p at *
        omega

end Go.Proofs.Ytdjjphcfobbipaa

/- The numbers modulo 2^256 are a ring. -/
namespace Go.Proofs.Ytdjjphcfobbipaa

theorem mod_mul (a b c : Int) : a % c * b % c = a * b % c := by rw [Int.mul_emod, Int.emod_emod, ← Int.mul_emod]
theorem mul_mod (a b c : Int) : a * (b % c) % c = a * b % c := by rw [Int.mul_emod, Int.emod_emod, ← Int.mul_emod]
theorem sumN_comm (n m : Int) : sumN n m = sumN m n := by unfold sumN; omega
theorem sumN_assoc (n m k : Int) : sumN (sumN n m) k = sumN n (sumN m k) := by unfold sumN; omega
theorem sumN_zero {n : Int} (h : Num n) : sumN n 0 = n := by obtain ⟨_, _⟩ := h; unfold sumN; omega
theorem loN_comm (n m : Int) : loN n m = loN m n := by unfold loN; rw [Int.mul_comm]
theorem loN_assoc (n m k : Int) : loN (loN n m) k = loN n (loN m k) := by
  unfold loN
  rw [mod_mul, mul_mod, Int.mul_assoc]
theorem loN_sum (n m k : Int) : loN n (sumN m k) = sumN (loN n m) (loN n k) := by
  unfold loN sumN
  rw [mul_mod, Int.mul_add]
  generalize n * m = p; generalize n * k = q
  omega
theorem loN_one {n : Int} (h : Num n) : loN n 1 = n := by obtain ⟨_, _⟩ := h; unfold loN; omega
theorem loN_zero (n : Int) : loN n 0 = 0 := by unfold loN; omega
theorem dif_back {n m : Int} (hn : Num n) (hm : Num m) : sumN (difN n m) m = n ∧ carN (difN n m) m = borN n m := by
  obtain ⟨_, _⟩ := hn; obtain ⟨_, _⟩ := hm
  unfold sumN difN carN borN
  split <;> constructor <;> omega
theorem bor_cmp (n m : Int) : (borN n m = 1 ∧ cmpN n m < 0) ∨ (borN n m = 0 ∧ 0 ≤ cmpN n m) := by
  unfold borN cmpN
  by_cases h : n < m
  · left; rw [if_pos h, if_neg (by omega), if_pos h]; decide
  · right; rw [if_neg h]; refine ⟨rfl, ?_⟩; split <;> decide
theorem Num_zero : Num 0 := by unfold Num; decide
theorem Num_one : Num 1 := by unfold Num; decide
/-- The whole product is 0 just if a factor is. -/
theorem prod_cases {n m : Int} (hn : Num n) (hm : Num m) :
    (n = 0 ∧ hiN n m = 0 ∧ loN n m = 0) ∨ (n ≠ 0 ∧ m = 0 ∧ hiN n m = 0 ∧ loN n m = 0) ∨ (n ≠ 0 ∧ m ≠ 0 ∧ hiN n m = 0 ∧ loN n m ≠ 0) ∨ (n ≠ 0 ∧ m ≠ 0 ∧ hiN n m ≠ 0) := by
  by_cases h : n = 0
  · left; subst h; refine ⟨rfl, ?_, ?_⟩ <;> simp [hiN, loN]
  by_cases h' : m = 0
  · right; left; subst h'; refine ⟨h, rfl, ?_, ?_⟩ <;> simp [hiN, loN]
  right; right
  by_cases h2 : hiN n m = 0
  · left
    refine ⟨h, h', h2, fun h3 => ?_⟩
    have : n * m = 0 := by
      unfold hiN at h2; unfold loN at h3
      generalize n * m = p at *
      omega
    rcases Int.mul_eq_zero.1 this with h4 | h4
    · exact h h4
    · exact h' h4
  · right; exact ⟨h, h', h2⟩

end Go.Proofs.Ytdjjphcfobbipaa

namespace Go.Proofs.Ytdjjphcfobbipaa

/-- A digit from the top limbs alone is not too small. -/
theorem guess_ge {X d ul dl B U D Q : Int} (hB : 0 < B) (hd : 0 < d) (hul : ul < B) (hdl : 0 ≤ dl) (hQ : 0 ≤ Q) (eU : U = ul + B * X) (eD : D = dl + B * d) (h : Q * D ≤ U) : Q ≤ X / d := by
  refine Int.le_ediv_of_mul_le hd ?_
  have h1 : Q * (B * d) ≤ Q * D := Int.mul_le_mul_of_nonneg_left (by omega) hQ
  have h2 : B * (Q * d) < B * (X + 1) := by
    rw [Int.mul_left_comm B Q d, Int.mul_add]
    omega
  have := Int.lt_of_mul_lt_mul_left h2 (by omega)
  omega

/-- What holds of a digit and of what is left, while it is put right. -/
structure Digit (U D p : Int) (len : Nat) (vs : List Int) (q b : Int) : Prop where
  ln : vs.length = len
  words : Words vs
  b0 : 0 ≤ b
  b1 : b ≤ 1
  wq : Word q
  e : val vs - p * b = U - q * D
  hi : U < (q + 1) * D

end Go.Proofs.Ytdjjphcfobbipaa

/- One digit of a long division, guessed from the top half of the divisor (32-bit halves). -/
namespace Go.Proofs.Ytdjjphcfobbipaa

/-- What holds of the guess q and its rest r, at every round. -/
structure Guess (un u y y1 y0 q r : Int) : Prop where
  q0 : 0 ≤ q
  q1 : q ≤ 4294967297
  r0 : 0 ≤ r
  r1 : r < 4294967296
  e : q * y1 + r = un
  hi : un * 4294967296 + u < (q + 1) * y

structure Halves (un u y y1 y0 : Int) : Prop where
  e : y = y1 * 4294967296 + y0
  a0 : 0 ≤ y0
  a1 : y0 < 4294967296
  b0 : 2147483648 ≤ y1
  b1 : y1 < 4294967296
  n0 : 0 ≤ un
  n1 : un < y
  u0 : 0 ≤ u
  u1 : u < 4294967296

theorem Guess.first {un u y y1 y0 : Int} (H : Halves un u y y1 y0) : Guess un u y y1 y0 (un / y1) (un - un / y1 * y1) := by
  obtain ⟨e, a0, a1, b0, b1, n0, n1, u0, u1⟩ := H
  have d := Int.emod_add_mul_ediv un y1
  have m0 := Int.emod_nonneg un (show y1 ≠ 0 by omega)
  have m1 := Int.emod_lt_of_pos un (show 0 < y1 by omega)
  have q0 : 0 ≤ un / y1 := Int.ediv_nonneg n0 (by omega)
  have q1 : un / y1 < 4294967298 := Int.ediv_lt_of_lt_mul (by omega) (by omega)
  generalize un / y1 = q at *
  generalize un % y1 = m at *
  rw [Int.mul_comm] at d
  generalize hp : q * y1 = p at *
  refine ⟨q0, by omega, by omega, by omega, by rw [hp]; omega, ?_⟩
  rw [e, Int.mul_add, ← Int.mul_assoc, Int.add_mul, hp, Int.one_mul]
  have : 0 ≤ (q + 1) * y0 := Int.mul_nonneg (by omega) a0
  omega

/-- The test: the guess is too great just if it fails. -/
theorem Guess.test {un u y y1 y0 q r : Int} (H : Halves un u y y1 y0) (G : Guess un u y y1 y0 q r) : (q * y0 ≤ 4294967296 * r + u → q * y ≤ un * 4294967296 + u) ∧ (4294967296 * r + u < q * y0 → un * 4294967296 + u < q * y) := by
  obtain ⟨e, a0, a1, b0, b1, n0, n1, u0, u1⟩ := H
  obtain ⟨q0, q1, r0, r1, g, hi⟩ := G
  rw [e, Int.mul_add, ← Int.mul_assoc]
  generalize q * y1 = p at *
  generalize q * y0 = s at *
  omega

/-- One lower. -/
theorem Guess.down {un u y y1 y0 q r : Int} (H : Halves un u y y1 y0) (G : Guess un u y y1 y0 q r) (t : 4294967296 ≤ q ∨ 4294967296 * r + u < q * y0) :
    0 < q ∧ q - 1 ≤ 4294967296 ∧ (q - 1) * y1 + (r + y1) = un ∧ un * 4294967296 + u < (q - 1 + 1) * y := by
  have T := (G.test H).2
  obtain ⟨e, a0, a1, b0, b1, n0, n1, u0, u1⟩ := H
  obtain ⟨q0, q1, r0, r1, g, hi⟩ := G
  have hq : 0 < q := by
    rcases t with t | t
    · omega
    · rcases Int.lt_or_eq_of_le q0 with h | h
      · exact h
      · rw [← h] at t; omega
  refine ⟨hq, by omega, ?_, ?_⟩
  · rw [Int.sub_mul, Int.one_mul]; omega
  · rw [Int.sub_add_cancel]
    rcases t with t | t
    · have : 4294967296 * y ≤ q * y := Int.mul_le_mul_of_nonneg_right t (by omega)
      omega
    · exact T t

/-- The guess is the digit. -/
theorem digit_of {U y q : Int} (_hy : 0 < y) (h0 : q * y ≤ U) (h1 : U < (q + 1) * y) : U / y = q ∧ U % y = U - q * y := by
  have h := (Int.ediv_emod_unique (a := U) (b := y) (r := U - q * y) (q := q) (by omega)).2 ⟨by rw [Int.mul_comm y q]; omega, by omega, by rw [Int.add_mul, Int.one_mul] at h1; omega⟩
  exact h

/-- Out of the loop by its test. -/
theorem Guess.out {un u y y1 y0 q r : Int} (H : Halves un u y y1 y0) (G : Guess un u y y1 y0 q r) (t : q * y0 ≤ 4294967296 * r + u) : (un * 4294967296 + u) / y = q ∧ (un * 4294967296 + u) % y = un * 4294967296 + u - q * y :=
  digit_of (by obtain ⟨e, a0, a1, b0, b1, n0, n1, u0, u1⟩ := H; omega) ((G.test H).1 t) G.hi

/-- Out of the loop by the rest's size. -/
theorem Guess.leave {un u y y1 y0 q r : Int} (H : Halves un u y y1 y0) (G : Guess un u y y1 y0 q r) (t : 4294967296 ≤ q ∨ 4294967296 * r + u < q * y0) (h : 4294967296 ≤ r + y1) :
    (un * 4294967296 + u) / y = q - 1 ∧ (un * 4294967296 + u) % y = un * 4294967296 + u - (q - 1) * y := by
  obtain ⟨d0, d1, d2, d3⟩ := G.down H t
  obtain ⟨e, a0, a1, b0, b1, n0, n1, u0, u1⟩ := H
  refine digit_of (by omega) ?_ d3
  have s : (q - 1) * y0 ≤ 4294967296 * y0 := Int.mul_le_mul_of_nonneg_right d1 a0
  rw [e, Int.mul_add, ← Int.mul_assoc]
  generalize (q - 1) * y1 = p at *
  generalize (q - 1) * y0 = v at *
  omega

theorem Guess.next {un u y y1 y0 q r : Int} (H : Halves un u y y1 y0) (G : Guess un u y y1 y0 q r) (t : 4294967296 ≤ q ∨ 4294967296 * r + u < q * y0) (h : r + y1 < 4294967296) : Guess un u y y1 y0 (q - 1) (r + y1) := by
  obtain ⟨d0, d1, d2, d3⟩ := G.down H t
  obtain ⟨e, a0, a1, b0, b1, n0, n1, u0, u1⟩ := H
  exact ⟨by omega, by omega, by have := G.r0; omega, h, d2, d3⟩

/-- The two digits together. -/
theorem two_digits {hi u1 u0 y q v : Int} (hy : 0 < y) (h1 : (hi * 4294967296 + u1) / y = q) (h2 : (hi * 4294967296 + u1) % y = v) :
    (hi * 18446744073709551616 + (u1 * 4294967296 + u0)) / y = q * 4294967296 + (v * 4294967296 + u0) / y ∧ (hi * 18446744073709551616 + (u1 * 4294967296 + u0)) % y = (v * 4294967296 + u0) % y := by
  have d := Int.emod_add_mul_ediv (hi * 4294967296 + u1) y
  rw [h1, h2] at d
  have e : hi * 18446744073709551616 + (u1 * 4294967296 + u0) = (v * 4294967296 + u0) + y * (q * 4294967296) := by
    rw [← Int.mul_assoc]
    generalize y * q = p at *
    omega
  rw [e]
  refine ⟨?_, Int.add_mul_emod_self_left _ _ _⟩
  rw [Int.add_mul_ediv_left _ _ (by omega)]
  omega

end Go.Proofs.Ytdjjphcfobbipaa
