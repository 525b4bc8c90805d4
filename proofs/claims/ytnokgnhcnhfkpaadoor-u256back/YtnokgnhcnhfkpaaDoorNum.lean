
/- Plain numbers: limbs of a number below 2^256. -/
namespace Go.Proofs.YtnokgnhcnhfkpaaDoor

/-- A limb. -/
def Word (x : Int) : Prop := 0 ≤ x ∧ x < 18446744073709551616

/-! What the limbs' steps answer, under names: the walk reckons nothing inside them. -/
def addS (x y c : Int) : Int := (x + y + c) % 18446744073709551616
def addC (x y c : Int) : Int := (x + y + c) / 18446744073709551616
def mulH (x y : Int) : Int := x * y / 18446744073709551616
def mulL (x y : Int) : Int := x * y % 18446744073709551616
def maH (a b c d : Int) : Int := (a * b + c + d) / 18446744073709551616
def maL (a b c d : Int) : Int := (a * b + c + d) % 18446744073709551616

theorem addS_word (x y c : Int) : Word (addS x y c) := ⟨by unfold addS; omega, by unfold addS; omega⟩
theorem addC_bit {x y c : Int} (hx : Word x) (hy : Word y) (hc : 0 ≤ c ∧ c ≤ 1) : 0 ≤ addC x y c ∧ addC x y c ≤ 1 := by
  obtain ⟨_, _⟩ := hx; obtain ⟨_, _⟩ := hy; unfold addC; omega
theorem word_mul {a b : Int} (ha : Word a) (hb : Word b) : 0 ≤ a * b ∧ a * b ≤ 18446744073709551615 * 18446744073709551615 := by
  obtain ⟨_, _⟩ := ha; obtain ⟨_, _⟩ := hb
  exact ⟨Int.mul_nonneg (by omega) (by omega), Int.mul_le_mul (by omega) (by omega) (by omega) (by omega)⟩
theorem mulL_word (x y : Int) : Word (mulL x y) := ⟨by unfold mulL; omega, by unfold mulL; omega⟩
theorem maL_word (a b c d : Int) : Word (maL a b c d) := ⟨by unfold maL; omega, by unfold maL; omega⟩
theorem maH_word {a b c d : Int} (ha : Word a) (hb : Word b) (hc : Word c) (hd : Word d) : Word (maH a b c d) := by
  obtain ⟨_, _⟩ := word_mul ha hb; obtain ⟨_, _⟩ := hc; obtain ⟨_, _⟩ := hd
  unfold maH Word; omega
theorem ma_eq (a b c d : Int) : maL a b c d + 18446744073709551616 * maH a b c d = a * b + c + d := by unfold maL maH; omega

/-- mulAdd's two additions: nothing is lost. -/
theorem mulAdd_steps {a b c d : Int} (ha : Word a) (hb : Word b) (hc : Word c) (hd : Word d) :
    0 ≤ mulH a b ∧ mulH a b + addC (mulL a b) c 0 < 18446744073709551616 ∧ mulH a b + addC (mulL a b) c 0 + addC (addS (mulL a b) c 0) d 0 < 18446744073709551616 ∧
    mulH a b + addC (mulL a b) c 0 + addC (addS (mulL a b) c 0) d 0 = maH a b c d ∧ addS (addS (mulL a b) c 0) d 0 = maL a b c d := by
  obtain ⟨_, _⟩ := word_mul ha hb; obtain ⟨_, _⟩ := hc; obtain ⟨_, _⟩ := hd
  unfold mulH addC mulL addS maH maL
  generalize a * b = p at *
  refine ⟨by omega, by omega, by omega, by omega, by omega⟩

/-! ### The four limbs of a number, the number of four limbs -/
def l0 (n : Int) : Int := n % 18446744073709551616
def l1 (n : Int) : Int := n / 18446744073709551616 % 18446744073709551616
def l2 (n : Int) : Int := n / 340282366920938463463374607431768211456 % 18446744073709551616
def l3 (n : Int) : Int := n / 6277101735386680763835789423207666416102355444464034512896 % 18446744073709551616
/-- A number below 2^256. -/
def Num (n : Int) : Prop := 0 ≤ n ∧ n < 115792089237316195423570985008687907853269984665640564039457584007913129639936
def num (a b c d : Int) : Int := a + 18446744073709551616 * b + 340282366920938463463374607431768211456 * c + 6277101735386680763835789423207666416102355444464034512896 * d

theorem l0_word (n : Int) : Word (l0 n) := ⟨by unfold l0; omega, by unfold l0; omega⟩
theorem l1_word (n : Int) : Word (l1 n) := ⟨by unfold l1; omega, by unfold l1; omega⟩
theorem l2_word (n : Int) : Word (l2 n) := ⟨by unfold l2; omega, by unfold l2; omega⟩
theorem l3_word (n : Int) : Word (l3 n) := ⟨by unfold l3; omega, by unfold l3; omega⟩
theorem num_Num {a b c d : Int} (ha : Word a) (hb : Word b) (hc : Word c) (hd : Word d) : Num (num a b c d) := by
  obtain ⟨_, _⟩ := ha; obtain ⟨_, _⟩ := hb; obtain ⟨_, _⟩ := hc; obtain ⟨_, _⟩ := hd
  unfold Num num; omega
theorem num_l {n : Int} (h : Num n) : num (l0 n) (l1 n) (l2 n) (l3 n) = n := by
  obtain ⟨_, _⟩ := h; unfold num l0 l1 l2 l3; omega
theorem l0_num {a b c d : Int} (ha : Word a) : l0 (num a b c d) = a := by
  obtain ⟨_, _⟩ := ha; unfold l0 num; omega
theorem l1_num {a b c d : Int} (ha : Word a) (hb : Word b) : l1 (num a b c d) = b := by
  obtain ⟨_, _⟩ := ha; obtain ⟨_, _⟩ := hb; unfold l1 num; omega
theorem l2_num {a b c d : Int} (ha : Word a) (hb : Word b) (hc : Word c) : l2 (num a b c d) = c := by
  obtain ⟨_, _⟩ := ha; obtain ⟨_, _⟩ := hb; obtain ⟨_, _⟩ := hc; unfold l2 num; omega
theorem l3_num {a b c d : Int} (ha : Word a) (hb : Word b) (hc : Word c) (hd : Word d) : l3 (num a b c d) = d := by
  obtain ⟨_, _⟩ := ha; obtain ⟨_, _⟩ := hb; obtain ⟨_, _⟩ := hc; obtain ⟨_, _⟩ := hd; unfold l3 num; omega
/-- Four limbs are those of their number. -/
theorem limbs_of {n a b c d : Int} (ha : Word a) (hb : Word b) (hc : Word c) (hd : Word d) (h : n = num a b c d) : l0 n = a ∧ l1 n = b ∧ l2 n = c ∧ l3 n = d := by
  subst h; exact ⟨l0_num ha, l1_num ha hb, l2_num ha hb hc, l3_num ha hb hc hd⟩
theorem num_inj {n m : Int} (hn : Num n) (hm : Num m) (h0 : l0 n = l0 m) (h1 : l1 n = l1 m) (h2 : l2 n = l2 m) (h3 : l3 n = l3 m) : n = m := by
  rw [← num_l hn, ← num_l hm, h0, h1, h2, h3]

def hiN (n m : Int) : Int := n * m / 115792089237316195423570985008687907853269984665640564039457584007913129639936
def loN (n m : Int) : Int := n * m % 115792089237316195423570985008687907853269984665640564039457584007913129639936
end Go.Proofs.YtnokgnhcnhfkpaaDoor
