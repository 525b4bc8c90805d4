
/- Plain numbers: limbs of a number below 2^256. -/
namespace Go.Proofs.YtiebnlahhmngcaaGreatDoor

/-- A limb. -/
def Word (x : Int) : Prop := 0 ≤ x ∧ x < 18446744073709551616

/-! What the limbs' steps answer, under names: the walk reckons nothing inside them. -/
def addS (x y c : Int) : Int := (x + y + c) % 18446744073709551616
def addC (x y c : Int) : Int := (x + y + c) / 18446744073709551616
def subS (x y b : Int) : Int := (x - y - b) % 18446744073709551616
def subB (x y b : Int) : Int := if x < y + b then 1 else 0
def mulH (x y : Int) : Int := x * y / 18446744073709551616
def mulL (x y : Int) : Int := x * y % 18446744073709551616
def maH (a b c d : Int) : Int := (a * b + c + d) / 18446744073709551616
def maL (a b c d : Int) : Int := (a * b + c + d) % 18446744073709551616

theorem addS_word (x y c : Int) : Word (addS x y c) := ⟨by unfold addS; omega, by unfold addS; omega⟩
theorem addC_bit {x y c : Int} (hx : Word x) (hy : Word y) (hc : 0 ≤ c ∧ c ≤ 1) : 0 ≤ addC x y c ∧ addC x y c ≤ 1 := by
  obtain ⟨_, _⟩ := hx; obtain ⟨_, _⟩ := hy; unfold addC; omega
theorem subS_word (x y c : Int) : Word (subS x y c) := ⟨by unfold subS; omega, by unfold subS; omega⟩
theorem subB_bit (x y b : Int) : 0 ≤ subB x y b ∧ subB x y b ≤ 1 := by unfold subB; split <;> omega
theorem addS_eq (x y c : Int) : addS x y c + 18446744073709551616 * addC x y c = x + y + c := by unfold addS addC; omega
theorem subS_eq {x y b : Int} (hx : Word x) (hy : Word y) (hb : 0 ≤ b ∧ b ≤ 1) : subS x y b - 18446744073709551616 * subB x y b = x - y - b := by
  obtain ⟨_, _⟩ := hx; obtain ⟨_, _⟩ := hy; unfold subS subB; split <;> omega
theorem word_mul {a b : Int} (ha : Word a) (hb : Word b) : 0 ≤ a * b ∧ a * b ≤ 18446744073709551615 * 18446744073709551615 := by
  obtain ⟨_, _⟩ := ha; obtain ⟨_, _⟩ := hb
  exact ⟨Int.mul_nonneg (by omega) (by omega), Int.mul_le_mul (by omega) (by omega) (by omega) (by omega)⟩
theorem mulL_word (x y : Int) : Word (mulL x y) := ⟨by unfold mulL; omega, by unfold mulL; omega⟩
theorem maL_word (a b c d : Int) : Word (maL a b c d) := ⟨by unfold maL; omega, by unfold maL; omega⟩
theorem maH_word {a b c d : Int} (ha : Word a) (hb : Word b) (hc : Word c) (hd : Word d) : Word (maH a b c d) := by
  obtain ⟨_, _⟩ := word_mul ha hb; obtain ⟨_, _⟩ := hc; obtain ⟨_, _⟩ := hd
  unfold maH Word; omega
theorem ma_eq (a b c d : Int) : maL a b c d + 18446744073709551616 * maH a b c d = a * b + c + d := by unfold maL maH; omega

/-- mulAdd's two additions: nothing is lost. -/
theorem mulAdd_steps {a b c d : Int} (ha : Word a) (hb : Word b) (hc : Word c) (hd : Word d) :
    0 ≤ mulH a b ∧ mulH a b + addC (mulL a b) c 0 < 18446744073709551616 ∧ mulH a b + addC (mulL a b) c 0 + addC (addS (mulL a b) c 0) d 0 < 18446744073709551616 ∧
    mulH a b + addC (mulL a b) c 0 + addC (addS (mulL a b) c 0) d 0 = maH a b c d ∧ addS (addS (mulL a b) c 0) d 0 = maL a b c d := by
  obtain ⟨_, _⟩ := word_mul ha hb; obtain ⟨_, _⟩ := hc; obtain ⟨_, _⟩ := hd
  unfold mulH addC mulL addS maH maL
  generalize a * b = p at *
  refine ⟨by omega, by omega, by omega, by omega, by omega⟩

/-! ### The four limbs of a number, the number of four limbs -/
def l0 (n : Int) : Int := n % 18446744073709551616
def l1 (n : Int) : Int := n / 18446744073709551616 % 18446744073709551616
def l2 (n : Int) : Int := n / 340282366920938463463374607431768211456 % 18446744073709551616
def l3 (n : Int) : Int := n / 6277101735386680763835789423207666416102355444464034512896 % 18446744073709551616
/-- A number below 2^256. -/
def Num (n : Int) : Prop := 0 ≤ n ∧ n < 115792089237316195423570985008687907853269984665640564039457584007913129639936
def num (a b c d : Int) : Int := a + 18446744073709551616 * b + 340282366920938463463374607431768211456 * c + 6277101735386680763835789423207666416102355444464034512896 * d

theorem l0_word (n : Int) : Word (l0 n) := ⟨by unfold l0; omega, by unfold l0; omega⟩
theorem l1_word (n : Int) : Word (l1 n) := ⟨by unfold l1; omega, by unfold l1; omega⟩
theorem l2_word (n : Int) : Word (l2 n) := ⟨by unfold l2; omega, by unfold l2; omega⟩
theorem l3_word (n : Int) : Word (l3 n) := ⟨by unfold l3; omega, by unfold l3; omega⟩
theorem num_Num {a b c d : Int} (ha : Word a) (hb : Word b) (hc : Word c) (hd : Word d) : Num (num a b c d) := by
  obtain ⟨_, _⟩ := ha; obtain ⟨_, _⟩ := hb; obtain ⟨_, _⟩ := hc; obtain ⟨_, _⟩ := hd
  unfold Num num; omega
theorem num_l {n : Int} (h : Num n) : num (l0 n) (l1 n) (l2 n) (l3 n) = n := by
  obtain ⟨_, _⟩ := h; unfold num l0 l1 l2 l3; omega
theorem l0_num {a b c d : Int} (ha : Word a) : l0 (num a b c d) = a := by
  obtain ⟨_, _⟩ := ha; unfold l0 num; omega
theorem l1_num {a b c d : Int} (ha : Word a) (hb : Word b) : l1 (num a b c d) = b := by
  obtain ⟨_, _⟩ := ha; obtain ⟨_, _⟩ := hb; unfold l1 num; omega
theorem l2_num {a b c d : Int} (ha : Word a) (hb : Word b) (hc : Word c) : l2 (num a b c d) = c := by
  obtain ⟨_, _⟩ := ha; obtain ⟨_, _⟩ := hb; obtain ⟨_, _⟩ := hc; unfold l2 num; omega
theorem l3_num {a b c d : Int} (ha : Word a) (hb : Word b) (hc : Word c) (hd : Word d) : l3 (num a b c d) = d := by
  obtain ⟨_, _⟩ := ha; obtain ⟨_, _⟩ := hb; obtain ⟨_, _⟩ := hc; obtain ⟨_, _⟩ := hd; unfold l3 num; omega
/-- Four limbs are those of their number. -/
theorem limbs_of {n a b c d : Int} (ha : Word a) (hb : Word b) (hc : Word c) (hd : Word d) (h : n = num a b c d) : l0 n = a ∧ l1 n = b ∧ l2 n = c ∧ l3 n = d := by
  subst h; exact ⟨l0_num ha, l1_num ha hb, l2_num ha hb hc, l3_num ha hb hc hd⟩
theorem num_inj {n m : Int} (hn : Num n) (hm : Num m) (h0 : l0 n = l0 m) (h1 : l1 n = l1 m) (h2 : l2 n = l2 m) (h3 : l3 n = l3 m) : n = m := by
  rw [← num_l hn, ← num_l hm, h0, h1, h2, h3]

/-! ### What the calls answer -/
def sumN (n m : Int) : Int := (n + m) % 115792089237316195423570985008687907853269984665640564039457584007913129639936
def carN (n m : Int) : Int := (n + m) / 115792089237316195423570985008687907853269984665640564039457584007913129639936
def difN (n m : Int) : Int := (n - m) % 115792089237316195423570985008687907853269984665640564039457584007913129639936
def borN (n m : Int) : Int := if n < m then 1 else 0
def hiN (n m : Int) : Int := n * m / 115792089237316195423570985008687907853269984665640564039457584007913129639936
def loN (n m : Int) : Int := n * m % 115792089237316195423570985008687907853269984665640564039457584007913129639936
def cmpN (n m : Int) : Int := if n = m then 0 else if n < m then -1 else 1

theorem sumN_Num (n m : Int) : Num (sumN n m) := ⟨by unfold sumN; omega, by unfold sumN; omega⟩
theorem difN_Num (n m : Int) : Num (difN n m) := ⟨by unfold difN; omega, by unfold difN; omega⟩
theorem loN_Num (n m : Int) : Num (loN n m) := ⟨by unfold loN; omega, by unfold loN; omega⟩
theorem num_mul {n m : Int} (hn : Num n) (hm : Num m) : 0 ≤ n * m ∧ n * m ≤ 115792089237316195423570985008687907853269984665640564039457584007913129639935 * 115792089237316195423570985008687907853269984665640564039457584007913129639935 := by
  obtain ⟨_, _⟩ := hn; obtain ⟨_, _⟩ := hm
  exact ⟨Int.mul_nonneg (by omega) (by omega), Int.mul_le_mul (by omega) (by omega) (by omega) (by omega)⟩
theorem hiN_Num {n m : Int} (hn : Num n) (hm : Num m) : Num (hiN n m) := by
  obtain ⟨_, _⟩ := num_mul hn hm
  unfold hiN Num; omega
theorem add_num (a0 a1 a2 a3 b0 b1 b2 b3 : Int) :
    let c0 := addC a0 b0 0; let c1 := addC a1 b1 c0; let c2 := addC a2 b2 c1; let c3 := addC a3 b3 c2
    let s := sumN (num a0 a1 a2 a3) (num b0 b1 b2 b3)
    l0 s = addS a0 b0 0 ∧ l1 s = addS a1 b1 c0 ∧ l2 s = addS a2 b2 c1 ∧ l3 s = addS a3 b3 c2 ∧ carN (num a0 a1 a2 a3) (num b0 b1 b2 b3) = c3 := by
  intro c0 c1 c2 c3 s
  have e0 := addS_eq a0 b0 0
  have e1 := addS_eq a1 b1 c0
  have e2 := addS_eq a2 b2 c1
  have e3 := addS_eq a3 b3 c2
  have w0 := addS_word a0 b0 0
  have w1 := addS_word a1 b1 c0
  have w2 := addS_word a2 b2 c1
  have w3 := addS_word a3 b3 c2
  have k := num_Num w0 w1 w2 w3
  have k3 : c3 = addC a3 b3 c2 := rfl
  rw [← k3] at e3
  have hs : num a0 a1 a2 a3 + num b0 b1 b2 b3 = num (addS a0 b0 0) (addS a1 b1 c0) (addS a2 b2 c1) (addS a3 b3 c2) + 115792089237316195423570985008687907853269984665640564039457584007913129639936 * c3 := by
    have k0 : c0 = addC a0 b0 0 := rfl
    have k1 : c1 = addC a1 b1 c0 := rfl
    have k2 : c2 = addC a2 b2 c1 := rfl
    rw [← k0] at e0; rw [← k1] at e1; rw [← k2] at e2
    unfold num; omega
  obtain ⟨k4, k5⟩ := k
  have hs' : s = num (addS a0 b0 0) (addS a1 b1 c0) (addS a2 b2 c1) (addS a3 b3 c2) := by
    show (num a0 a1 a2 a3 + num b0 b1 b2 b3) % _ = _
    omega
  obtain ⟨r0, r1, r2, r3⟩ := limbs_of w0 w1 w2 w3 hs'
  exact ⟨r0, r1, r2, r3, by unfold carN; omega⟩

theorem sub_num {a0 a1 a2 a3 b0 b1 b2 b3 : Int} (ha0 : Word a0) (ha1 : Word a1) (ha2 : Word a2) (ha3 : Word a3) (hb0 : Word b0) (hb1 : Word b1) (hb2 : Word b2) (hb3 : Word b3) :
    let c0 := subB a0 b0 0; let c1 := subB a1 b1 c0; let c2 := subB a2 b2 c1; let c3 := subB a3 b3 c2
    let s := difN (num a0 a1 a2 a3) (num b0 b1 b2 b3)
    l0 s = subS a0 b0 0 ∧ l1 s = subS a1 b1 c0 ∧ l2 s = subS a2 b2 c1 ∧ l3 s = subS a3 b3 c2 ∧ borN (num a0 a1 a2 a3) (num b0 b1 b2 b3) = c3 := by
  intro c0 c1 c2 c3 s
  have t0 := subB_bit a0 b0 0
  have t1 := subB_bit a1 b1 c0
  have t2 := subB_bit a2 b2 c1
  have t3 := subB_bit a3 b3 c2
  have e0 := subS_eq ha0 hb0 (by decide : (0 : Int) ≤ 0 ∧ (0 : Int) ≤ 1)
  have e1 := subS_eq ha1 hb1 t0
  have e2 := subS_eq ha2 hb2 t1
  have e3 := subS_eq ha3 hb3 t2
  have w0 := subS_word a0 b0 0
  have w1 := subS_word a1 b1 c0
  have w2 := subS_word a2 b2 c1
  have w3 := subS_word a3 b3 c2
  have k := num_Num w0 w1 w2 w3
  have k0 : subB a0 b0 0 = c0 := rfl
  have k1 : subB a1 b1 c0 = c1 := rfl
  have k2 : subB a2 b2 c1 = c2 := rfl
  have k3 : subB a3 b3 c2 = c3 := rfl
  rw [k0] at e0 e1; rw [k1] at e1 e2; rw [k2] at e2 e3; rw [k3] at e3 t3
  have hs : num a0 a1 a2 a3 - num b0 b1 b2 b3 = num (subS a0 b0 0) (subS a1 b1 c0) (subS a2 b2 c1) (subS a3 b3 c2) - 115792089237316195423570985008687907853269984665640564039457584007913129639936 * c3 := by
    unfold num; omega
  obtain ⟨k4, k5⟩ := k
  have hs' : s = num (subS a0 b0 0) (subS a1 b1 c0) (subS a2 b2 c1) (subS a3 b3 c2) := by
    show (num a0 a1 a2 a3 - num b0 b1 b2 b3) % _ = _
    omega
  obtain ⟨r0, r1, r2, r3⟩ := limbs_of w0 w1 w2 w3 hs'
  exact ⟨r0, r1, r2, r3, by unfold borN; split <;> omega⟩

end Go.Proofs.YtiebnlahhmngcaaGreatDoor

/- What hangs on a modulus: plain numbers. -/
namespace Go.Proofs.YtiebnlahhmngcaaGreatDoor

/-- m: a modulus of 256 bits; c: what is left of 2^256. -/
structure Fit (m c : Int) : Prop where
  low : 57896044618658097711785492504343953926634992332820282019728792003956564819968 ≤ m
  pos : 0 < c
  sum : m + c = 115792089237316195423570985008687907853269984665640564039457584007913129639936

theorem Fit.num {m c : Int} (h : Fit m c) : Num m := by obtain ⟨_, _, _⟩ := h; unfold Num; omega
theorem Fit.numc {m c : Int} (h : Fit m c) : Num c := by obtain ⟨_, _, _⟩ := h; unfold Num; omega
theorem Fit.pos' {m c : Int} (h : Fit m c) : 0 < m := by obtain ⟨_, _, _⟩ := h; omega

def modN (m n : Int) : Int := n % m
theorem modN_Num {m c : Int} (h : Fit m c) (n : Int) : Num (modN m n) := by
  obtain ⟨h1, h2, h3⟩ := h
  have a := Int.emod_nonneg n (show m ≠ 0 by omega)
  have b := Int.emod_lt_of_pos n (show 0 < m by omega)
  unfold modN Num; omega
theorem modN_lt {m c : Int} (h : Fit m c) (n : Int) : 0 ≤ modN m n ∧ modN m n < m := by
  obtain ⟨h1, h2, h3⟩ := h
  exact ⟨Int.emod_nonneg n (show m ≠ 0 by omega), Int.emod_lt_of_pos n (show 0 < m by omega)⟩
theorem once_num {m c n : Int} (h : Fit m c) (hn : Num n) : (n < m → modN m n = n) ∧ (m ≤ n → modN m n = difN n m ∧ borN n m = 0) := by
  obtain ⟨h1, h2, h3⟩ := h
  obtain ⟨a, b⟩ := hn
  refine ⟨fun hlt => Int.emod_eq_of_lt a hlt, fun hle => ⟨?_, ?_⟩⟩
  · have e : n % m = (n - m) % m := by rw [Int.sub_emod, Int.emod_self, Int.sub_zero, Int.emod_emod_of_dvd _ (Int.dvd_refl m)]
    unfold modN difN
    rw [e, Int.emod_eq_of_lt (by omega) (by omega), Int.emod_eq_of_lt (by omega) (by omega)]
  · unfold borN; rw [if_neg (by omega)]

def foldH (h l c : Int) : Int := (h * c + l) / 115792089237316195423570985008687907853269984665640564039457584007913129639936
def foldL (h l c : Int) : Int := (h * c + l) % 115792089237316195423570985008687907853269984665640564039457584007913129639936
theorem foldL_Num (h l c : Int) : Num (foldL h l c) := ⟨by unfold foldL; omega, by unfold foldL; omega⟩
theorem fold_num {m c h l : Int} (hf : Fit m c) (hh : Num h) (hl : Num l) :
    Num (foldH h l c) ∧ sumN (loN h c) l = foldL h l c ∧ sumN (hiN h c) (carN (loN h c) l) = foldH h l c ∧ Word (carN (loN h c) l) := by
  obtain ⟨h1, h2, h3⟩ := hf
  obtain ⟨a, b⟩ := hh; obtain ⟨a', b'⟩ := hl
  have u : 0 ≤ h * c ∧ h * c ≤ 115792089237316195423570985008687907853269984665640564039457584007913129639935 * 57896044618658097711785492504343953926634992332820282019728792003956564819968 :=
    ⟨Int.mul_nonneg (by omega) (by omega), Int.mul_le_mul (by omega) (by omega) (by omega) (by omega)⟩
  unfold Num foldH foldL sumN loN hiN carN Word
  generalize h * c = p at *
  refine ⟨by omega, by omega, by omega, by omega⟩
/-- A fold leaves the rest as it was, and the number falls. -/
theorem fold_rest {m c h l : Int} (hf : Fit m c) (hh : Num h) (hz : h ≠ 0) :
    (foldH h l c * 115792089237316195423570985008687907853269984665640564039457584007913129639936 + foldL h l c) % m = (h * 115792089237316195423570985008687907853269984665640564039457584007913129639936 + l) % m ∧
    foldH h l c * 115792089237316195423570985008687907853269984665640564039457584007913129639936 + foldL h l c < h * 115792089237316195423570985008687907853269984665640564039457584007913129639936 + l := by
  obtain ⟨h1, h2, h3⟩ := hf
  obtain ⟨a, b⟩ := hh
  have e : foldH h l c * 115792089237316195423570985008687907853269984665640564039457584007913129639936 + foldL h l c = h * c + l := by
    unfold foldH foldL; generalize h * c = p; omega
  have e2 : h * 115792089237316195423570985008687907853269984665640564039457584007913129639936 + l = h * c + l + m * h := by
    rw [← h3, Int.mul_add, Int.mul_comm h m]; omega
  have e3 : 0 < m * h := Int.mul_pos (by omega) (by omega)
  rw [e, e2, Int.add_mul_emod_self_left]
  exact ⟨rfl, by omega⟩
/-- A number of 512 bits. -/
def wideN (h l : Int) : Int := h * 115792089237316195423570985008687907853269984665640564039457584007913129639936 + l
theorem wide_mul (x y : Int) : wideN (hiN x y) (loN x y) = x * y := by unfold wideN hiN loN; generalize x * y = p; omega
theorem wide_nonneg {h l : Int} (hh : Num h) (hl : Num l) : 0 ≤ wideN h l := by
  obtain ⟨_, _⟩ := hh; obtain ⟨_, _⟩ := hl; unfold wideN; omega
theorem wide_step {m c h l : Int} (hf : Fit m c) (hh : Num h) (hz : h ≠ 0) :
    wideN (foldH h l c) (foldL h l c) % m = wideN h l % m ∧ wideN (foldH h l c) (foldL h l c) < wideN h l := fold_rest hf hh hz
theorem wide_zero (l : Int) : wideN 0 l = l := by unfold wideN; omega

def pN : Int := 115792089237316195423570985008687907853269984665640564039457584007908834671663
def nN : Int := 115792089237316195423570985008687907852837564279074904382605163141518161494337
def pC : Int := 4294968273
def nC : Int := 432420386565659656852420866394968145599
theorem fit_p : Fit pN pC := ⟨by decide, by decide, by decide⟩
theorem fit_n : Fit nN nC := ⟨by decide, by decide, by decide⟩
theorem limbs_p : l0 pN = 18446744069414583343 ∧ l1 pN = 18446744073709551615 ∧ l2 pN = 18446744073709551615 ∧ l3 pN = 18446744073709551615 := by decide
theorem limbs_pc : l0 pC = 4294968273 ∧ l1 pC = 0 ∧ l2 pC = 0 ∧ l3 pC = 0 := by decide
theorem limbs_n : l0 nN = 13822214165235122497 ∧ l1 nN = 13451932020343611451 ∧ l2 nN = 18446744073709551614 ∧ l3 nN = 18446744073709551615 := by decide
theorem limbs_nc : l0 nC = 4624529908474429119 ∧ l1 nC = 4994812053365940164 ∧ l2 nC = 1 ∧ l3 nC = 0 := by decide
end Go.Proofs.YtiebnlahhmngcaaGreatDoor

/- The permutation, in plain words of 64 bits. -/
namespace Go.Proofs.YtiebnlahhmngcaaGreatDoor.K

def turnsN : List Nat := [0, 1, 62, 28, 27, 36, 44, 6, 55, 20, 3, 10, 43, 25, 39, 41, 45, 15, 21, 8, 18, 2, 61, 56, 14]
def srcN : List Nat := [0, 6, 12, 18, 24, 3, 9, 10, 16, 22, 1, 7, 13, 19, 20, 4, 5, 11, 17, 23, 2, 8, 14, 15, 21]
def marksN : List (BitVec 64) := [1, 32898, 9223372036854808714, 9223372039002292224, 32907, 2147483649, 9223372039002292353, 9223372036854808585, 138, 136, 2147516425, 2147483658, 2147516555, 9223372036854775947, 9223372036854808713, 9223372036854808579, 9223372036854808578, 9223372036854775936, 32778, 9223372039002259466, 9223372039002292353, 9223372036854808704, 2147483649, 9223372039002292232]

/-- A column's sum. -/
def colX (L : List (BitVec 64)) (x : Nat) : BitVec 64 := L.getD x 0 ^^^ L.getD (x + 5) 0 ^^^ L.getD (x + 10) 0 ^^^ L.getD (x + 15) 0 ^^^ L.getD (x + 20) 0
/-- What step 1 adds to the lanes of a column. -/
def addX (L : List (BitVec 64)) (x : Nat) : BitVec 64 := colX L ((x + 4) % 5) ^^^ (colX L ((x + 1) % 5)).rotateLeft 1
/-- A lane behind the steps 1 and 2. -/
def turX (L : List (BitVec 64)) (i : Nat) : BitVec 64 := (L.getD i 0 ^^^ addX L (i % 5)).rotateLeft (turnsN.getD i 0)
/-- A lane behind the step 3. -/
def movX (L : List (BitVec 64)) (p : Nat) : BitVec 64 := turX L (srcN.getD p 0)
/-- A lane behind the step 4. -/
def mixX (f : Nat → BitVec 64) (p : Nat) : BitVec 64 := f p ^^^ (~~~ f ((p % 5 + 1) % 5 + 5 * (p / 5)) &&& f ((p % 5 + 2) % 5 + 5 * (p / 5)))
/-- A round. -/
def rnd (L : List (BitVec 64)) (m : BitVec 64) : List (BitVec 64) := ((List.range 25).map (mixX (movX L))).set 0 (mixX (movX L) 0 ^^^ m)
/-- The first n rounds. -/
def rnds (L : List (BitVec 64)) : Nat → List (BitVec 64)
  | 0 => L
  | n + 1 => rnd (rnds L n) (marksN.getD n 0)
def perm (L : List (BitVec 64)) : List (BitVec 64) := rnds L 24
theorem rnd_len (L : List (BitVec 64)) (m : BitVec 64) : (rnd L m).length = 25 := by simp [rnd]
theorem rnds_len {L : List (BitVec 64)} (h : L.length = 25) : ∀ n, (rnds L n).length = 25
  | 0 => h
  | _ + 1 => rnd_len _ _
theorem perm_len {L : List (BitVec 64)} (h : L.length = 25) : (perm L).length = 25 := rnds_len h 24
theorem len25 {α : Type} {l : List α} (h : l.length = 25) : ∃ x0 x1 x2 x3 x4 x5 x6 x7 x8 x9 x10 x11 x12 x13 x14 x15 x16 x17 x18 x19 x20 x21 x22 x23 x24, l = [x0, x1, x2, x3, x4, x5, x6, x7, x8, x9, x10, x11, x12, x13, x14, x15, x16, x17, x18, x19, x20, x21, x22, x23, x24] := by
  match l, h with
  | [x0, x1, x2, x3, x4, x5, x6, x7, x8, x9, x10, x11, x12, x13, x14, x15, x16, x17, x18, x19, x20, x21, x22, x23, x24], _ => exact ⟨x0, x1, x2, x3, x4, x5, x6, x7, x8, x9, x10, x11, x12, x13, x14, x15, x16, x17, x18, x19, x20, x21, x22, x23, x24, rfl⟩

end Go.Proofs.YtiebnlahhmngcaaGreatDoor.K
