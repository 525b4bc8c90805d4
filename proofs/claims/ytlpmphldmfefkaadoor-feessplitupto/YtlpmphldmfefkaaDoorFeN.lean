import Derived.Test.YtlpmphldmfefkaaDoorNum
import Derived.Test.YtlpmphldmfefkaaDoorMulNum
namespace Go.Proofs.YtlpmphldmfefkaaDoor

def wideV (s : Int) : Int := if s < 115792089237316195423570985008687907853269984665640564039457584007913129639936 then s else 0
def wideE (s : Int) : Int := if s < 115792089237316195423570985008687907853269984665640564039457584007913129639936 then 0 else 183

/-! ### the terms -/
def apN (f x : Int) : Nat → Int
  | 0 => f
  | k + 1 => apN f x k * x / (f * ((k : Int) + 1))
def smN (f x : Int) : Nat → Int
  | 0 => 0
  | k + 1 => smN f x k + apN f x k
/-- Going on: nothing has passed 2^256 up to k, and no term was 0. -/
def Goes (f x : Int) (k : Nat) : Prop := apN f x k ≠ 0 ∧ smN f x (k + 1) < 115792089237316195423570985008687907853269984665640564039457584007913129639936 ∧ apN f x (k + 1) < 115792089237316195423570985008687907853269984665640564039457584007913129639936

/-- Where the terms stop. -/
structure Stop (f x : Int) (K : Nat) : Prop where
  lt : K < 1000
  stop : ¬ Goes f x K
  goes : ∀ j, j < K → Goes f x j
end Go.Proofs.YtlpmphldmfefkaaDoor

/- Numbers as rows of 32-bit digits, the lowest first. -/
namespace Go.Proofs.YtlpmphldmfefkaaDoor

theorem getD_set_ne {l : List Int} {i t : Nat} (h : t ≠ i) (v : Int) : (l.set i v).getD t 0 = l.getD t 0 := by
  simp [List.getD, List.getElem?_set_ne (Ne.symm h)]
end Go.Proofs.YtlpmphldmfefkaaDoor
