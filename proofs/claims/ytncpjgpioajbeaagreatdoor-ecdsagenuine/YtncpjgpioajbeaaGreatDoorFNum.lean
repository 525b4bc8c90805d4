import Derived.Test.YtncpjgpioajbeaaGreatDoorNum
/- What hangs on a modulus: plain numbers. -/
namespace Go.Proofs.YtncpjgpioajbeaaGreatDoor

/-- m: a modulus of 256 bits; c: what is left of 2^256. -/
structure Fit (m c : Int) : Prop where
  low : 57896044618658097711785492504343953926634992332820282019728792003956564819968 ≤ m
  pos : 0 < c
  sum : m + c = 115792089237316195423570985008687907853269984665640564039457584007913129639936

theorem Fit.num {m c : Int} (h : Fit m c) : Num m := by obtain ⟨_, _, _⟩ := h; unfold Num; omega
theorem Fit.numc {m c : Int} (h : Fit m c) : Num c := by obtain ⟨_, _, _⟩ := h; unfold Num; omega
theorem Fit.pos' {m c : Int} (h : Fit m c) : 0 < m := by obtain ⟨_, _, _⟩ := h; omega

def modN (m n : Int) : Int := n % m
theorem modN_Num {m c : Int} (h : Fit m c) (n : Int) : Num (modN m n) := by
  obtain ⟨h1, h2, h3⟩ := h
  have a := Int.emod_nonneg n (show m ≠ 0 by omega)
  have b := Int.emod_lt_of_pos n (show 0 < m by omega)
  unfold modN Num; omega
theorem modN_lt {m c : Int} (h : Fit m c) (n : Int) : 0 ≤ modN m n ∧ modN m n < m := by
  obtain ⟨h1, h2, h3⟩ := h
  exact ⟨Int.emod_nonneg n (show m ≠ 0 by omega), Int.emod_lt_of_pos n (show 0 < m by omega)⟩
theorem once_num {m c n : Int} (h : Fit m c) (hn : Num n) : (n < m → modN m n = n) ∧ (m ≤ n → modN m n = difN n m ∧ borN n m = 0) := by
  obtain ⟨h1, h2, h3⟩ := h
  obtain ⟨a, b⟩ := hn
  refine ⟨fun hlt => Int.emod_eq_of_lt a hlt, fun hle => ⟨?_, ?_⟩⟩
  · have e : n % m = (n - m) % m := by rw [Int.sub_emod, Int.emod_self, Int.sub_zero, Int.emod_emod_of_dvd _ (Int.dvd_refl m)]
    unfold modN difN
    rw [e, Int.emod_eq_of_lt (by omega) (by omega), Int.emod_eq_of_lt (by omega) (by omega)]
  · unfold borN; rw [if_neg (by omega)]

def foldH (h l c : Int) : Int := (h * c + l) / 115792089237316195423570985008687907853269984665640564039457584007913129639936
def foldL (h l c : Int) : Int := (h * c + l) % 115792089237316195423570985008687907853269984665640564039457584007913129639936
theorem foldL_Num (h l c : Int) : Num (foldL h l c) := ⟨by unfold foldL; omega, by unfold foldL; omega⟩
theorem fold_num {m c h l : Int} (hf : Fit m c) (hh : Num h) (hl : Num l) :
    Num (foldH h l c) ∧ sumN (loN h c) l = foldL h l c ∧ sumN (hiN h c) (carN (loN h c) l) = foldH h l c ∧ Word (carN (loN h c) l) := by
  obtain ⟨h1, h2, h3⟩ := hf
  obtain ⟨a, b⟩ := hh; obtain ⟨a', b'⟩ := hl
  have u : 0 ≤ h * c ∧ h * c ≤ 115792089237316195423570985008687907853269984665640564039457584007913129639935 * 57896044618658097711785492504343953926634992332820282019728792003956564819968 :=
    ⟨Int.mul_nonneg (by omega) (by omega), Int.mul_le_mul (by omega) (by omega) (by omega) (by omega)⟩
  unfold Num foldH foldL sumN loN hiN carN Word
  generalize h * c = p at *
  refine ⟨by omega, by omega, by omega, by omega⟩
/-- A fold leaves the rest as it was, and the number falls. -/
theorem fold_rest {m c h l : Int} (hf : Fit m c) (hh : Num h) (hz : h ≠ 0) :
    (foldH h l c * 115792089237316195423570985008687907853269984665640564039457584007913129639936 + foldL h l c) % m = (h * 115792089237316195423570985008687907853269984665640564039457584007913129639936 + l) % m ∧
    foldH h l c * 115792089237316195423570985008687907853269984665640564039457584007913129639936 + foldL h l c < h * 115792089237316195423570985008687907853269984665640564039457584007913129639936 + l := by
  obtain ⟨h1, h2, h3⟩ := hf
  obtain ⟨a, b⟩ := hh
  have e : foldH h l c * 115792089237316195423570985008687907853269984665640564039457584007913129639936 + foldL h l c = h * c + l := by
    unfold foldH foldL; generalize h * c = p; omega
  have e2 : h * 115792089237316195423570985008687907853269984665640564039457584007913129639936 + l = h * c + l + m * h := by
    rw [← h3, Int.mul_add, Int.mul_comm h m]; omega
  have e3 : 0 < m * h := Int.mul_pos (by omega) (by omega)
  rw [e, e2, Int.add_mul_emod_self_left]
  exact ⟨rfl, by omega⟩
/-- A number of 512 bits. -/
def wideN (h l : Int) : Int := h * 115792089237316195423570985008687907853269984665640564039457584007913129639936 + l
theorem wide_mul (x y : Int) : wideN (hiN x y) (loN x y) = x * y := by unfold wideN hiN loN; generalize x * y = p; omega
theorem wide_nonneg {h l : Int} (hh : Num h) (hl : Num l) : 0 ≤ wideN h l := by
  obtain ⟨_, _⟩ := hh; obtain ⟨_, _⟩ := hl; unfold wideN; omega
theorem wide_step {m c h l : Int} (hf : Fit m c) (hh : Num h) (hz : h ≠ 0) :
    wideN (foldH h l c) (foldL h l c) % m = wideN h l % m ∧ wideN (foldH h l c) (foldL h l c) < wideN h l := fold_rest hf hh hz
theorem wide_zero (l : Int) : wideN 0 l = l := by unfold wideN; omega

def pN : Int := 115792089237316195423570985008687907853269984665640564039457584007908834671663
def nN : Int := 115792089237316195423570985008687907852837564279074904382605163141518161494337
def pC : Int := 4294968273
def nC : Int := 432420386565659656852420866394968145599
theorem fit_p : Fit pN pC := ⟨by decide, by decide, by decide⟩
theorem fit_n : Fit nN nC := ⟨by decide, by decide, by decide⟩
theorem limbs_p : l0 pN = 18446744069414583343 ∧ l1 pN = 18446744073709551615 ∧ l2 pN = 18446744073709551615 ∧ l3 pN = 18446744073709551615 := by decide
theorem limbs_pc : l0 pC = 4294968273 ∧ l1 pC = 0 ∧ l2 pC = 0 ∧ l3 pC = 0 := by decide
theorem limbs_n : l0 nN = 13822214165235122497 ∧ l1 nN = 13451932020343611451 ∧ l2 nN = 18446744073709551614 ∧ l3 nN = 18446744073709551615 := by decide
theorem limbs_nc : l0 nC = 4624529908474429119 ∧ l1 nC = 4994812053365940164 ∧ l2 nC = 1 ∧ l3 nC = 0 := by decide
end Go.Proofs.YtncpjgpioajbeaaGreatDoor

/- The school's product of two numbers of four limbs. -/
namespace Go.Proofs.YtncpjgpioajbeaaGreatDoor

theorem mul_num_right (x y0 y1 y2 y3 : Int) : x * num y0 y1 y2 y3 = num (x * y0) (x * y1) (x * y2) (x * y3) := by
  unfold num
  rw [Int.mul_add, Int.mul_add, Int.mul_add, Int.mul_left_comm x _ y1, Int.mul_left_comm x _ y2, Int.mul_left_comm x _ y3]
theorem mul_num_left (x0 x1 x2 x3 y : Int) : num x0 x1 x2 x3 * y = num (x0 * y) (x1 * y) (x2 * y) (x3 * y) := by
  rw [Int.mul_comm, mul_num_right, Int.mul_comm y, Int.mul_comm y, Int.mul_comm y, Int.mul_comm y]

/-- One row: x times y, added to what lies there. -/
theorem mul_row {x y0 y1 y2 y3 a0 a1 a2 a3 p0 p1 p2 p3 c0 c1 c2 c3 : Int}
    (e0 : p0 + 18446744073709551616 * c0 = x * y0 + a0 + 0) (e1 : p1 + 18446744073709551616 * c1 = x * y1 + a1 + c0)
    (e2 : p2 + 18446744073709551616 * c2 = x * y2 + a2 + c1) (e3 : p3 + 18446744073709551616 * c3 = x * y3 + a3 + c2) :
    num p0 p1 p2 p3 + 115792089237316195423570985008687907853269984665640564039457584007913129639936 * c3 = num a0 a1 a2 a3 + x * num y0 y1 y2 y3 := by
  rw [mul_num_right]
  unfold num
  generalize x * y0 = z0 at *; generalize x * y1 = z1 at *; generalize x * y2 = z2 at *; generalize x * y3 = z3 at *
  omega

/-- Four rows. -/
theorem mul_rows {x0 x1 x2 x3 Y : Int} {p00 p01 p02 p03 c03 p10 p11 p12 p13 c13 p20 p21 p22 p23 c23 p30 p31 p32 p33 c33 : Int}
    (r0 : num p00 p01 p02 p03 + 115792089237316195423570985008687907853269984665640564039457584007913129639936 * c03 = num 0 0 0 0 + x0 * Y)
    (r1 : num p10 p11 p12 p13 + 115792089237316195423570985008687907853269984665640564039457584007913129639936 * c13 = num p01 p02 p03 c03 + x1 * Y)
    (r2 : num p20 p21 p22 p23 + 115792089237316195423570985008687907853269984665640564039457584007913129639936 * c23 = num p11 p12 p13 c13 + x2 * Y)
    (r3 : num p30 p31 p32 p33 + 115792089237316195423570985008687907853269984665640564039457584007913129639936 * c33 = num p21 p22 p23 c23 + x3 * Y) :
    num p00 p10 p20 p30 + 115792089237316195423570985008687907853269984665640564039457584007913129639936 * num p31 p32 p33 c33 = num x0 x1 x2 x3 * Y := by
  rw [mul_num_left]
  generalize x0 * Y = z0 at *; generalize x1 * Y = z1 at *; generalize x2 * Y = z2 at *; generalize x3 * Y = z3 at *
  unfold num at *
  omega

/-- A number below 2^512, by its halves. -/
theorem halves {n m h l : Int} (hl : Num l) (e : l + 115792089237316195423570985008687907853269984665640564039457584007913129639936 * h = n * m) : hiN n m = h ∧ loN n m = l := by
  obtain ⟨_, _⟩ := hl
  unfold hiN loN
  generalize n * m = p at *
  omega

end Go.Proofs.YtncpjgpioajbeaaGreatDoor

/- Long division, limb by limb: the numbers of lists of limbs. -/
namespace Go.Proofs.YtncpjgpioajbeaaGreatDoor

def val : List Int → Int
  | [] => 0
  | x :: xs => x + 18446744073709551616 * val xs
def Words (l : List Int) : Prop := ∀ x ∈ l, Word x

end Go.Proofs.YtncpjgpioajbeaaGreatDoor

/- The numbers modulo 2^256 are a ring. -/
namespace Go.Proofs.YtncpjgpioajbeaaGreatDoor

theorem mul_mod (a b c : Int) : a * (b % c) % c = a * b % c := by rw [Int.mul_emod, Int.emod_emod, ← Int.mul_emod]
end Go.Proofs.YtncpjgpioajbeaaGreatDoor
