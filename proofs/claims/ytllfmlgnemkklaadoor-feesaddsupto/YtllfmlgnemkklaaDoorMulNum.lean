import Derived.Test.YtllfmlgnemkklaaDoorNum
/- The school's product of two numbers of four limbs. -/
namespace Go.Proofs.YtllfmlgnemkklaaDoor

/-- A number below 2^512, by its halves. -/
theorem halves {n m h l : Int} (hl : Num l) (e : l + 115792089237316195423570985008687907853269984665640564039457584007913129639936 * h = n * m) : hiN n m = h ∧ loN n m = l := by
  obtain ⟨_, _⟩ := hl
  unfold hiN loN
  generalize n * m = p at *
  omega

end Go.Proofs.YtllfmlgnemkklaaDoor

/- Numbers as rows of 32-bit digits, the lowest first. -/
namespace Go.Proofs.YtllfmlgnemkklaaDoor

/-- The digits of a number. -/
def dl (n : Int) : List Int := [l0 n % 4294967296, l0 n / 4294967296, l1 n % 4294967296, l1 n / 4294967296, l2 n % 4294967296, l2 n / 4294967296, l3 n % 4294967296, l3 n / 4294967296]
theorem getD_set_ne {l : List Int} {i t : Nat} (h : t ≠ i) (v : Int) : (l.set i v).getD t 0 = l.getD t 0 := by
  simp [List.getD, List.getElem?_set_ne (Ne.symm h)]
end Go.Proofs.YtllfmlgnemkklaaDoor

namespace Go.Proofs.YtllfmlgnemkklaaDoor

/-! ### the terms -/
def apN (f x : Int) : Nat → Int
  | 0 => f
  | k + 1 => apN f x k * x / (f * ((k : Int) + 1))
def smN (f x : Int) : Nat → Int
  | 0 => 0
  | k + 1 => smN f x k + apN f x k
/-- Going on: nothing has passed 2^256 up to k, and no term was 0. -/
def Goes (f x : Int) (k : Nat) : Prop := apN f x k ≠ 0 ∧ smN f x (k + 1) < 115792089237316195423570985008687907853269984665640564039457584007913129639936 ∧ apN f x (k + 1) < 115792089237316195423570985008687907853269984665640564039457584007913129639936

/-- Where the terms stop. -/
structure Stop (f x : Int) (K : Nat) : Prop where
  lt : K < 1000
  stop : ¬ Goes f x K
  goes : ∀ j, j < K → Goes f x j
end Go.Proofs.YtllfmlgnemkklaaDoor
