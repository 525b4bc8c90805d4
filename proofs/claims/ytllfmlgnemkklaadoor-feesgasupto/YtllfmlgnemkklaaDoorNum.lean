
/- Plain numbers: limbs of a number below 2^256. -/
namespace Go.Proofs.YtllfmlgnemkklaaDoor

/-- A limb. -/
def Word (x : Int) : Prop := 0 ≤ x ∧ x < 18446744073709551616

/-! ### The four limbs of a number, the number of four limbs -/
def l0 (n : Int) : Int := n % 18446744073709551616
def l1 (n : Int) : Int := n / 18446744073709551616 % 18446744073709551616
def l2 (n : Int) : Int := n / 340282366920938463463374607431768211456 % 18446744073709551616
def l3 (n : Int) : Int := n / 6277101735386680763835789423207666416102355444464034512896 % 18446744073709551616
/-- A number below 2^256. -/
def Num (n : Int) : Prop := 0 ≤ n ∧ n < 115792089237316195423570985008687907853269984665640564039457584007913129639936
def num (a b c d : Int) : Int := a + 18446744073709551616 * b + 340282366920938463463374607431768211456 * c + 6277101735386680763835789423207666416102355444464034512896 * d

theorem num_Num {a b c d : Int} (ha : Word a) (hb : Word b) (hc : Word c) (hd : Word d) : Num (num a b c d) := by
  obtain ⟨_, _⟩ := ha; obtain ⟨_, _⟩ := hb; obtain ⟨_, _⟩ := hc; obtain ⟨_, _⟩ := hd
  unfold Num num; omega
theorem num_l {n : Int} (h : Num n) : num (l0 n) (l1 n) (l2 n) (l3 n) = n := by
  obtain ⟨_, _⟩ := h; unfold num l0 l1 l2 l3; omega
theorem l0_num {a b c d : Int} (ha : Word a) : l0 (num a b c d) = a := by
  obtain ⟨_, _⟩ := ha; unfold l0 num; omega
theorem l1_num {a b c d : Int} (ha : Word a) (hb : Word b) : l1 (num a b c d) = b := by
  obtain ⟨_, _⟩ := ha; obtain ⟨_, _⟩ := hb; unfold l1 num; omega
theorem l2_num {a b c d : Int} (ha : Word a) (hb : Word b) (hc : Word c) : l2 (num a b c d) = c := by
  obtain ⟨_, _⟩ := ha; obtain ⟨_, _⟩ := hb; obtain ⟨_, _⟩ := hc; unfold l2 num; omega
theorem l3_num {a b c d : Int} (ha : Word a) (hb : Word b) (hc : Word c) (hd : Word d) : l3 (num a b c d) = d := by
  obtain ⟨_, _⟩ := ha; obtain ⟨_, _⟩ := hb; obtain ⟨_, _⟩ := hc; obtain ⟨_, _⟩ := hd; unfold l3 num; omega
/-- Four limbs are those of their number. -/
theorem limbs_of {n a b c d : Int} (ha : Word a) (hb : Word b) (hc : Word c) (hd : Word d) (h : n = num a b c d) : l0 n = a ∧ l1 n = b ∧ l2 n = c ∧ l3 n = d := by
  subst h; exact ⟨l0_num ha, l1_num ha hb, l2_num ha hb hc, l3_num ha hb hc hd⟩
theorem num_inj {n m : Int} (hn : Num n) (hm : Num m) (h0 : l0 n = l0 m) (h1 : l1 n = l1 m) (h2 : l2 n = l2 m) (h3 : l3 n = l3 m) : n = m := by
  rw [← num_l hn, ← num_l hm, h0, h1, h2, h3]

def hiN (n m : Int) : Int := n * m / 115792089237316195423570985008687907853269984665640564039457584007913129639936
def loN (n m : Int) : Int := n * m % 115792089237316195423570985008687907853269984665640564039457584007913129639936
end Go.Proofs.YtllfmlgnemkklaaDoor

/- The school's product of two numbers of four limbs. -/
namespace Go.Proofs.YtllfmlgnemkklaaDoor

/-- A number below 2^512, by its halves. -/
theorem halves {n m h l : Int} (hl : Num l) (e : l + 115792089237316195423570985008687907853269984665640564039457584007913129639936 * h = n * m) : hiN n m = h ∧ loN n m = l := by
  obtain ⟨_, _⟩ := hl
  unfold hiN loN
  generalize n * m = p at *
  omega

end Go.Proofs.YtllfmlgnemkklaaDoor

namespace Go.Proofs.YtllfmlgnemkklaaDoor

/-! ### the terms -/
def apN (f x : Int) : Nat → Int
  | 0 => f
  | k + 1 => apN f x k * x / (f * ((k : Int) + 1))
def smN (f x : Int) : Nat → Int
  | 0 => 0
  | k + 1 => smN f x k + apN f x k
/-- Going on: nothing has passed 2^256 up to k, and no term was 0. -/
def Goes (f x : Int) (k : Nat) : Prop := apN f x k ≠ 0 ∧ smN f x (k + 1) < 115792089237316195423570985008687907853269984665640564039457584007913129639936 ∧ apN f x (k + 1) < 115792089237316195423570985008687907853269984665640564039457584007913129639936

/-- Where the terms stop. -/
structure Stop (f x : Int) (K : Nat) : Prop where
  lt : K < 1000
  stop : ¬ Goes f x K
  goes : ∀ j, j < K → Goes f x j
end Go.Proofs.YtllfmlgnemkklaaDoor
