
/- Plain numbers: limbs of a number below 2^256. -/
namespace Go.Proofs.YtllfmlgnemkklaaDoor

/-- A limb. -/
def Word (x : Int) : Prop := 0 ≤ x ∧ x < 18446744073709551616

/-! What the limbs' steps answer, under names: the walk reckons nothing inside them. -/
def addS (x y c : Int) : Int := (x + y + c) % 18446744073709551616
def addC (x y c : Int) : Int := (x + y + c) / 18446744073709551616
def subS (x y b : Int) : Int := (x - y - b) % 18446744073709551616
def subB (x y b : Int) : Int := if x < y + b then 1 else 0
theorem addS_word (x y c : Int) : Word (addS x y c) := ⟨by unfold addS; omega, by unfold addS; omega⟩
theorem addC_bit {x y c : Int} (hx : Word x) (hy : Word y) (hc : 0 ≤ c ∧ c ≤ 1) : 0 ≤ addC x y c ∧ addC x y c ≤ 1 := by
  obtain ⟨_, _⟩ := hx; obtain ⟨_, _⟩ := hy; unfold addC; omega
theorem subS_word (x y c : Int) : Word (subS x y c) := ⟨by unfold subS; omega, by unfold subS; omega⟩
theorem subB_bit (x y b : Int) : 0 ≤ subB x y b ∧ subB x y b ≤ 1 := by unfold subB; split <;> omega
theorem addS_eq (x y c : Int) : addS x y c + 18446744073709551616 * addC x y c = x + y + c := by unfold addS addC; omega
theorem subS_eq {x y b : Int} (hx : Word x) (hy : Word y) (hb : 0 ≤ b ∧ b ≤ 1) : subS x y b - 18446744073709551616 * subB x y b = x - y - b := by
  obtain ⟨_, _⟩ := hx; obtain ⟨_, _⟩ := hy; unfold subS subB; split <;> omega
/-! ### The four limbs of a number, the number of four limbs -/
def l0 (n : Int) : Int := n % 18446744073709551616
def l1 (n : Int) : Int := n / 18446744073709551616 % 18446744073709551616
def l2 (n : Int) : Int := n / 340282366920938463463374607431768211456 % 18446744073709551616
def l3 (n : Int) : Int := n / 6277101735386680763835789423207666416102355444464034512896 % 18446744073709551616
/-- A number below 2^256. -/
def Num (n : Int) : Prop := 0 ≤ n ∧ n < 115792089237316195423570985008687907853269984665640564039457584007913129639936
def num (a b c d : Int) : Int := a + 18446744073709551616 * b + 340282366920938463463374607431768211456 * c + 6277101735386680763835789423207666416102355444464034512896 * d

theorem l0_word (n : Int) : Word (l0 n) := ⟨by unfold l0; omega, by unfold l0; omega⟩
theorem l1_word (n : Int) : Word (l1 n) := ⟨by unfold l1; omega, by unfold l1; omega⟩
theorem l2_word (n : Int) : Word (l2 n) := ⟨by unfold l2; omega, by unfold l2; omega⟩
theorem l3_word (n : Int) : Word (l3 n) := ⟨by unfold l3; omega, by unfold l3; omega⟩
theorem num_Num {a b c d : Int} (ha : Word a) (hb : Word b) (hc : Word c) (hd : Word d) : Num (num a b c d) := by
  obtain ⟨_, _⟩ := ha; obtain ⟨_, _⟩ := hb; obtain ⟨_, _⟩ := hc; obtain ⟨_, _⟩ := hd
  unfold Num num; omega
theorem num_l {n : Int} (h : Num n) : num (l0 n) (l1 n) (l2 n) (l3 n) = n := by
  obtain ⟨_, _⟩ := h; unfold num l0 l1 l2 l3; omega
theorem l0_num {a b c d : Int} (ha : Word a) : l0 (num a b c d) = a := by
  obtain ⟨_, _⟩ := ha; unfold l0 num; omega
theorem l1_num {a b c d : Int} (ha : Word a) (hb : Word b) : l1 (num a b c d) = b := by
  obtain ⟨_, _⟩ := ha; obtain ⟨_, _⟩ := hb; unfold l1 num; omega
theorem l2_num {a b c d : Int} (ha : Word a) (hb : Word b) (hc : Word c) : l2 (num a b c d) = c := by
  obtain ⟨_, _⟩ := ha; obtain ⟨_, _⟩ := hb; obtain ⟨_, _⟩ := hc; unfold l2 num; omega
theorem l3_num {a b c d : Int} (ha : Word a) (hb : Word b) (hc : Word c) (hd : Word d) : l3 (num a b c d) = d := by
  obtain ⟨_, _⟩ := ha; obtain ⟨_, _⟩ := hb; obtain ⟨_, _⟩ := hc; obtain ⟨_, _⟩ := hd; unfold l3 num; omega
/-- Four limbs are those of their number. -/
theorem limbs_of {n a b c d : Int} (ha : Word a) (hb : Word b) (hc : Word c) (hd : Word d) (h : n = num a b c d) : l0 n = a ∧ l1 n = b ∧ l2 n = c ∧ l3 n = d := by
  subst h; exact ⟨l0_num ha, l1_num ha hb, l2_num ha hb hc, l3_num ha hb hc hd⟩
theorem num_inj {n m : Int} (hn : Num n) (hm : Num m) (h0 : l0 n = l0 m) (h1 : l1 n = l1 m) (h2 : l2 n = l2 m) (h3 : l3 n = l3 m) : n = m := by
  rw [← num_l hn, ← num_l hm, h0, h1, h2, h3]

/-! ### What the calls answer -/
def sumN (n m : Int) : Int := (n + m) % 115792089237316195423570985008687907853269984665640564039457584007913129639936
def carN (n m : Int) : Int := (n + m) / 115792089237316195423570985008687907853269984665640564039457584007913129639936
def difN (n m : Int) : Int := (n - m) % 115792089237316195423570985008687907853269984665640564039457584007913129639936
def borN (n m : Int) : Int := if n < m then 1 else 0
def hiN (n m : Int) : Int := n * m / 115792089237316195423570985008687907853269984665640564039457584007913129639936
def loN (n m : Int) : Int := n * m % 115792089237316195423570985008687907853269984665640564039457584007913129639936
def cmpN (n m : Int) : Int := if n = m then 0 else if n < m then -1 else 1

theorem add_num (a0 a1 a2 a3 b0 b1 b2 b3 : Int) :
    let c0 := addC a0 b0 0; let c1 := addC a1 b1 c0; let c2 := addC a2 b2 c1; let c3 := addC a3 b3 c2
    let s := sumN (num a0 a1 a2 a3) (num b0 b1 b2 b3)
    l0 s = addS a0 b0 0 ∧ l1 s = addS a1 b1 c0 ∧ l2 s = addS a2 b2 c1 ∧ l3 s = addS a3 b3 c2 ∧ carN (num a0 a1 a2 a3) (num b0 b1 b2 b3) = c3 := by
  intro c0 c1 c2 c3 s
  have e0 := addS_eq a0 b0 0
  have e1 := addS_eq a1 b1 c0
  have e2 := addS_eq a2 b2 c1
  have e3 := addS_eq a3 b3 c2
  have w0 := addS_word a0 b0 0
  have w1 := addS_word a1 b1 c0
  have w2 := addS_word a2 b2 c1
  have w3 := addS_word a3 b3 c2
  have k := num_Num w0 w1 w2 w3
  have k3 : c3 = addC a3 b3 c2 := rfl
  rw [← k3] at e3
  have hs : num a0 a1 a2 a3 + num b0 b1 b2 b3 = num (addS a0 b0 0) (addS a1 b1 c0) (addS a2 b2 c1) (addS a3 b3 c2) + 115792089237316195423570985008687907853269984665640564039457584007913129639936 * c3 := by
    have k0 : c0 = addC a0 b0 0 := rfl
    have k1 : c1 = addC a1 b1 c0 := rfl
    have k2 : c2 = addC a2 b2 c1 := rfl
    rw [← k0] at e0; rw [← k1] at e1; rw [← k2] at e2
    unfold num; omega
  obtain ⟨k4, k5⟩ := k
  have hs' : s = num (addS a0 b0 0) (addS a1 b1 c0) (addS a2 b2 c1) (addS a3 b3 c2) := by
    show (num a0 a1 a2 a3 + num b0 b1 b2 b3) % _ = _
    omega
  obtain ⟨r0, r1, r2, r3⟩ := limbs_of w0 w1 w2 w3 hs'
  exact ⟨r0, r1, r2, r3, by unfold carN; omega⟩

theorem sub_num {a0 a1 a2 a3 b0 b1 b2 b3 : Int} (ha0 : Word a0) (ha1 : Word a1) (ha2 : Word a2) (ha3 : Word a3) (hb0 : Word b0) (hb1 : Word b1) (hb2 : Word b2) (hb3 : Word b3) :
    let c0 := subB a0 b0 0; let c1 := subB a1 b1 c0; let c2 := subB a2 b2 c1; let c3 := subB a3 b3 c2
    let s := difN (num a0 a1 a2 a3) (num b0 b1 b2 b3)
    l0 s = subS a0 b0 0 ∧ l1 s = subS a1 b1 c0 ∧ l2 s = subS a2 b2 c1 ∧ l3 s = subS a3 b3 c2 ∧ borN (num a0 a1 a2 a3) (num b0 b1 b2 b3) = c3 := by
  intro c0 c1 c2 c3 s
  have t0 := subB_bit a0 b0 0
  have t1 := subB_bit a1 b1 c0
  have t2 := subB_bit a2 b2 c1
  have t3 := subB_bit a3 b3 c2
  have e0 := subS_eq ha0 hb0 (by decide : (0 : Int) ≤ 0 ∧ (0 : Int) ≤ 1)
  have e1 := subS_eq ha1 hb1 t0
  have e2 := subS_eq ha2 hb2 t1
  have e3 := subS_eq ha3 hb3 t2
  have w0 := subS_word a0 b0 0
  have w1 := subS_word a1 b1 c0
  have w2 := subS_word a2 b2 c1
  have w3 := subS_word a3 b3 c2
  have k := num_Num w0 w1 w2 w3
  have k0 : subB a0 b0 0 = c0 := rfl
  have k1 : subB a1 b1 c0 = c1 := rfl
  have k2 : subB a2 b2 c1 = c2 := rfl
  have k3 : subB a3 b3 c2 = c3 := rfl
  rw [k0] at e0 e1; rw [k1] at e1 e2; rw [k2] at e2 e3; rw [k3] at e3 t3
  have hs : num a0 a1 a2 a3 - num b0 b1 b2 b3 = num (subS a0 b0 0) (subS a1 b1 c0) (subS a2 b2 c1) (subS a3 b3 c2) - 115792089237316195423570985008687907853269984665640564039457584007913129639936 * c3 := by
    unfold num; omega
  obtain ⟨k4, k5⟩ := k
  have hs' : s = num (subS a0 b0 0) (subS a1 b1 c0) (subS a2 b2 c1) (subS a3 b3 c2) := by
    show (num a0 a1 a2 a3 - num b0 b1 b2 b3) % _ = _
    omega
  obtain ⟨r0, r1, r2, r3⟩ := limbs_of w0 w1 w2 w3 hs'
  exact ⟨r0, r1, r2, r3, by unfold borN; split <;> omega⟩

end Go.Proofs.YtllfmlgnemkklaaDoor
